package tests

import (
	"go/ast"
	"go/parser"
	"go/token"
	"math"
	"path/filepath"
	"reflect"
	"slices"
	"strings"
	"testing"

	"loop.example/g00185/impl"
)

// everyFunction has all functions of the document by name.
func everyFunction() map[string]any {
	return map[string]any{
		"ShareOk": impl.ShareOk, "ShareLess": impl.ShareLess, "Gcd": impl.Gcd, "SumOf": impl.SumOf, "Fits": impl.Fits,
		"NiceOk": impl.NiceOk, "WeightOf": impl.WeightOf, "StepOf": impl.StepOf, "PartOf": impl.PartOf,
		"TaskOk": impl.TaskOk, "NewDue": impl.NewDue, "NewFixed": impl.NewFixed, "NewFair": impl.NewFair, "TaskAt": impl.TaskAt, "TasksOk": impl.TasksOk, "TaskPut": impl.TaskPut,
		"DueWake": impl.DueWake, "DueRenew": impl.DueRenew, "DueSpend": impl.DueSpend, "DueBefore": impl.DueBefore, "DueShare": impl.DueShare,
		"FixedBefore": impl.FixedBefore, "FixedSpend": impl.FixedSpend,
		"FairBefore": impl.FairBefore, "FairSpend": impl.FairSpend, "FairWake": impl.FairWake, "FairFloor": impl.FairFloor, "FairMove": impl.FairMove, "FairSpread": impl.FairSpread,
		"LocksOk": impl.LocksOk, "WaitAt": impl.WaitAt, "ChainOf": impl.ChainOf, "OwnsAny": impl.OwnsAny, "LockAsk": impl.LockAsk, "LockFree": impl.LockFree,
		"Before": impl.Before, "Executor": impl.Executor, "Able": impl.Able, "CanTurn": impl.CanTurn, "Pick": impl.Pick, "BestOf": impl.BestOf,
		"SysOk": impl.SysOk, "SysNew": impl.SysNew, "SharesOn": impl.SharesOn, "SameCpu": impl.SameCpu, "FloorOn": impl.FloorOn,
		"SysTick": impl.SysTick, "SysTicks": impl.SysTicks, "LastTurns": impl.LastTurns,
		"CallOk": impl.CallOk, "SysCall": impl.SysCall, "SysRun": impl.SysRun,
		"JudgeTurns": impl.JudgeTurns, "JudgeDue": impl.JudgeDue, "JudgeFair": impl.JudgeFair, "JudgeBest": impl.JudgeBest, "JudgeAlone": impl.JudgeAlone, "JudgeAll": impl.JudgeAll,
		"UsedBy": impl.UsedBy, "TookBy": impl.TookBy, "IdleOn": impl.IdleOn, "ShortOf": impl.ShortOf, "SpreadOn": impl.SpreadOn,
		"CallLine": impl.CallLine, "CallParse": impl.CallParse, "TurnText": impl.TurnText, "SysLine": impl.SysLine, "Session": impl.Session,
	}
}

// exportedNames are read from the program's files.
func exportedNames(t *testing.T) []string {
	t.Helper()
	files, err := filepath.Glob("../impl/*.go")
	if err != nil || len(files) != 14 {
		t.Fatal(files, err)
	}
	var names []string
	for _, file := range files {
		parsed, err := parser.ParseFile(token.NewFileSet(), file, nil, 0)
		if err != nil {
			t.Fatal(err)
		}
		for _, decl := range parsed.Decls {
			if fn, ok := decl.(*ast.FuncDecl); ok && fn.Recv == nil && fn.Name.IsExported() {
				names = append(names, fn.Name.Name)
			}
		}
	}
	slices.Sort(names)
	return names
}

func sortedNames(all map[string]any) []string {
	var names []string
	for name := range all {
		names = append(names, name)
	}
	slices.Sort(names)
	return names
}

func TestEveryFunctionIsThere(t *testing.T) {
	if want, got := exportedNames(t), sortedNames(everyFunction()); !slices.Equal(got, want) {
		t.Errorf("%v,\nnot %v", got, want)
	}
}

func (n *numbers) anyNumber() int {
	if n.below(3) > 0 {
		return n.oneOf(n.below(5), n.below(13), n.below(41), 1+5*n.below(12), n.below(1001))
	}
	return n.oneOf(-1, -2, -4, -5, -9, -10, 4, 5, 40, 41, 1000, 1001, 100000, 100001, 100040, 100041, 900000, 900001, 1000000, 1000001, mostV, mostV+1, 9999999, 10000000,
		1<<31, 1<<32, 1<<32+1, -1<<32, math.MinInt, math.MinInt+1, math.MaxInt-1, math.MaxInt)
}

func (n *numbers) anySys() impl.Sys {
	s := n.judgeable()
	switch n.below(8) {
	case 0:
		s = impl.Sys{}
	case 1:
		wrong := wrongSystems()
		s = wrong[n.below(len(wrong))]
	case 2:
		s = rightSystems()[n.below(6)]
	case 3:
		s.Tasks = n.tasks()
	case 4:
		s.Locks = n.locks()
	case 5:
		s.Now, s.Cpus = n.anyNumber(), n.anyNumber()
	}
	return s
}

func (n *numbers) anyText() string {
	var lines []string
	for range n.below(n.oneOf(2, 2, 20, 160)) {
		lines = append(lines, n.anyLine(bareSys(4)))
	}
	text := strings.Join(lines, "\n")
	if n.below(4) == 0 {
		text += strings.Repeat(string([]byte{byte(n.below(256))}), n.oneOf(1, 8, 150, 151, 20000, 20001))
	}
	return text
}

func anyList[T any](n *numbers, most int, one func() T) []T {
	var list []T
	for range n.below(1 + n.oneOf(0, 1, 3, most)) {
		list = append(list, one())
	}
	return list
}

// anyArgument is of that type. Each list of it has something in the room behind it.
func (n *numbers) anyArgument(kind reflect.Type) reflect.Value {
	var argument any
	switch kind {
	case reflect.TypeFor[int]():
		argument = n.anyNumber()
	case reflect.TypeFor[string]():
		argument = n.anyText()
	case reflect.TypeFor[impl.Share]():
		argument = impl.Share{Q: n.anyNumber(), P: n.anyNumber()}
	case reflect.TypeFor[impl.Task]():
		argument = n.anyTask()
	case reflect.TypeFor[impl.Call]():
		argument = n.anyCall(bareSys(4))
		if n.below(3) == 0 {
			argument = impl.Call{Kind: n.below(13), No: n.anyNumber(), Cpu: n.anyNumber(), A: n.anyNumber(), B: n.anyNumber()}
		}
	case reflect.TypeFor[impl.Sys]():
		s, _ := roomySys(n.anySys())
		argument = s
	case reflect.TypeFor[[]int]():
		argument, _ = spacious(anyList(n, 9, n.anyNumber), 77, -78)
	case reflect.TypeFor[[]impl.Share]():
		argument, _ = spacious(anyList(n, 9, func() impl.Share { return n.share(4) }), impl.Share{Q: 1, P: 40}, impl.Share{Q: -1})
	case reflect.TypeFor[[]impl.Task]():
		argument, _ = spacious(n.tasks(), fairNo(77, 1), impl.Task{})
	case reflect.TypeFor[[]impl.Lock]():
		argument, _ = roomy(n.locks())
	case reflect.TypeFor[[]impl.Call]():
		argument, _ = spacious(anyList(n, n.oneOf(20, 160), func() impl.Call { return n.anyCall(bareSys(4)) }), sleepCall(77), impl.Call{Kind: -78})
	case reflect.TypeFor[[]impl.Turn]():
		argument, _ = spacious(anyList(n, 500, func() impl.Turn { return turnOf(n.below(5), n.anyNumber(), n.below(5)) }), turnOf(0, 77, 78), impl.Turn{Cpu: -1})
	default:
		panic("no argument of " + kind.String())
	}
	return reflect.ValueOf(argument)
}

// wholeOf is all that a value is made of, number by number, with the room behind
// its lists.
func wholeOf(v reflect.Value, whole []any) []any {
	switch v.Kind() {
	case reflect.Slice:
		whole = append(whole, v.Len(), v.Cap())
		all := v.Slice(0, v.Cap())
		for i := range all.Len() {
			whole = wholeOf(all.Index(i), whole)
		}
	case reflect.Struct:
		for i := range v.NumField() {
			whole = wholeOf(v.Field(i), whole)
		}
	default:
		whole = append(whole, v.Interface())
	}
	return whole
}

// stretch is where a list lies in memory, with the room behind it.
type stretch struct{ from, to uintptr }

func stretchesOf(v reflect.Value, all []stretch) []stretch {
	switch v.Kind() {
	case reflect.Slice:
		if v.Cap() > 0 {
			all = append(all, stretch{v.Pointer(), v.Pointer() + uintptr(v.Cap())*v.Type().Elem().Size()})
		}
		for i := range v.Len() {
			all = stretchesOf(v.Index(i), all)
		}
	case reflect.Struct:
		for i := range v.NumField() {
			all = stretchesOf(v.Field(i), all)
		}
	}
	return all
}

func meet(a stretch, b stretch) bool { return a.from < b.to && b.from < a.to }

// answersOf calls it, and fails the test where it panics.
func answersOf(t *testing.T, name string, fn reflect.Value, arguments []reflect.Value) []reflect.Value {
	t.Helper()
	defer func() {
		if cause := recover(); cause != nil {
			t.Fatalf("%s(%+v) panics: %v", name, arguments, cause)
		}
	}()
	return fn.Call(arguments)
}

// plain is what an answer says, in which an empty list and nil are the same.
func plain(v reflect.Value, all []any) []any {
	switch v.Kind() {
	case reflect.Slice:
		all = append(all, v.Len())
		for i := range v.Len() {
			all = plain(v.Index(i), all)
		}
	case reflect.Struct:
		for i := range v.NumField() {
			all = plain(v.Field(i), all)
		}
	default:
		all = append(all, v.Interface())
	}
	return all
}

func eachOf(list []reflect.Value, walk func(v reflect.Value, all []any) []any) []any {
	var all []any
	for _, v := range list {
		all = walk(v, all)
	}
	return all
}

// wantApart asks that no two lists of an answer share memory, nor one of them with
// an argument.
func wantApart(t *testing.T, name string, answers []reflect.Value, arguments []reflect.Value) {
	t.Helper()
	var own, given []stretch
	for _, v := range answers {
		own = stretchesOf(v, own)
	}
	for _, v := range arguments {
		given = stretchesOf(v, given)
	}
	for at, one := range own {
		for _, other := range own[:at] {
			if meet(one, other) {
				t.Fatalf("two lists of %s(%+v) share memory: %+v", name, arguments, answers)
			}
		}
		for _, other := range given {
			if meet(one, other) {
				t.Fatalf("%s(%+v) shares memory with it: %+v", name, arguments, answers)
			}
		}
	}
}

// Promise 15: every function answers at any arguments, and writes into none.
func TestEveryFunctionAnswersAtAnyArguments(t *testing.T) {
	var n numbers
	all := everyFunction()
	for _, name := range sortedNames(all) {
		fn := reflect.ValueOf(all[name])
		for range 400 {
			var arguments []reflect.Value
			for i := range fn.Type().NumIn() {
				arguments = append(arguments, n.anyArgument(fn.Type().In(i)))
			}
			was := eachOf(arguments, wholeOf)
			answers := answersOf(t, name, fn, arguments)
			if !slices.Equal(eachOf(arguments, wholeOf), was) {
				t.Fatalf("%s(%+v) wrote into it", name, arguments)
			}
			wantApart(t, name, answers, arguments)
			again := answersOf(t, name, fn, arguments)
			wantApart(t, name, append(slices.Clone(answers), again...), arguments)
			if !slices.Equal(eachOf(answers, plain), eachOf(again, plain)) {
				t.Fatalf("%s(%+v) is %+v, then %+v", name, arguments, answers, again)
			}
		}
	}
}

// Beside every number at an end of int, every list without anything, and every
// text empty, as beside one of them alone.
func TestEveryFunctionAnswersAtTheEnds(t *testing.T) {
	var n numbers
	all := everyFunction()
	for _, name := range sortedNames(all) {
		fn := reflect.ValueOf(all[name])
		for _, end := range []int{0, math.MinInt, math.MinInt + 1, -1, math.MaxInt - 1, math.MaxInt} {
			for odd := range 1 << fn.Type().NumIn() {
				var arguments []reflect.Value
				for i := range fn.Type().NumIn() {
					argument := n.anyArgument(fn.Type().In(i))
					if odd>>i&1 == 1 {
						argument = reflect.New(fn.Type().In(i)).Elem()
						setNumbers(argument, end)
					}
					arguments = append(arguments, argument)
				}
				was := eachOf(arguments, wholeOf)
				answers := answersOf(t, name, fn, arguments)
				if !slices.Equal(eachOf(arguments, wholeOf), was) {
					t.Fatalf("%s(%+v) wrote into it", name, arguments)
				}
				wantApart(t, name, answers, arguments)
			}
		}
	}
}

// setNumbers leaves lists and texts empty.
func setNumbers(v reflect.Value, number int) {
	switch v.Kind() {
	case reflect.Int:
		v.SetInt(int64(number))
	case reflect.Struct:
		for i := range v.NumField() {
			setNumbers(v.Field(i), number)
		}
	}
}

// What is told apart here must be: a look that sees nothing would let all pass.
func TestTheLookAtMemory(t *testing.T) {
	room := []int{1, 2, 3, 4}
	stretches := func(list ...any) []stretch {
		var all []stretch
		for _, one := range list {
			all = stretchesOf(reflect.ValueOf(one), all)
		}
		return all
	}
	for _, row := range []struct {
		a, b []int
		want bool
	}{
		{room, room, true}, {room[:2:2], room[2:], false}, {room[:2], room[2:], true}, {room[1:2:3], room[2:], true}, {room, slices.Clone(room), false},
	} {
		if got := stretches(row.a, row.b); meet(got[0], got[1]) != row.want {
			t.Errorf("%v and %v", row.a, row.b)
		}
	}
	if got := stretches(impl.Sys{Locks: []impl.Lock{{Waits: room[:1]}}, Floors: room[3:]}); len(got) != 3 || !meet(got[1], got[2]) {
		t.Errorf("%v", got)
	}
	if got := wholeOf(reflect.ValueOf(room[:1]), nil); !slices.Equal(got, []any{1, 4, 1, 2, 3, 4}) {
		t.Errorf("%v", got)
	}
}
