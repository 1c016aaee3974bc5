package tests

import (
	"go/ast"
	"go/parser"
	"go/token"
	"math"
	"slices"
	"sync"
	"testing"

	"loop.example/g00185/impl"
)

type niceRow struct{ nice, weight, step int }

func niceRows() []niceRow {
	return []niceRow{
		{4, 1, 48}, {3, 2, 24}, {2, 3, 16}, {1, 4, 12}, {0, 6, 8},
		{-1, 8, 6}, {-2, 12, 4}, {-3, 16, 3}, {-4, 24, 2},
	}
}

func weightByRow(nice int) int {
	for _, row := range niceRows() {
		if row.nice == nice {
			return row.weight
		}
	}
	return 0
}

func noNices() []int {
	return []int{
		-5, 5, -6, 6, 9, -9, 10, 12, -12, 48, 252, 256, -256, 260, 1 << 32, 1<<32 + 4, -1 << 32, -1<<32 - 4,
		math.MaxInt32, math.MinInt32, math.MaxInt, math.MinInt, math.MaxInt - 4, math.MinInt + 4,
	}
}

func (n *numbers) nices(count int) []int {
	list := make([]int, count)
	for i := range list {
		list[i] = n.below(9) - 4
	}
	return list
}

func wantPart(t *testing.T, nice int, list []int, weight int, sum int) {
	t.Helper()
	if w, s, ok := impl.PartOf(nice, list); w != weight || s != sum || !ok {
		t.Errorf("PartOf(%d, %v) = %d, %d, %t; want %d, %d, true", nice, list, w, s, ok, weight, sum)
	}
}

func wantNoPart(t *testing.T, nice int, list []int) {
	t.Helper()
	if w, s, ok := impl.PartOf(nice, list); w != 0 || s != 0 || ok {
		t.Errorf("PartOf(%d, %v) = %d, %d, %t; want 0, 0, false", nice, list, w, s, ok)
	}
}

func TestScale(t *testing.T) {
	if impl.Scale != 48 {
		t.Error(impl.Scale)
	}
}

func TestEachNice(t *testing.T) {
	for _, row := range niceRows() {
		if !impl.NiceOk(row.nice) {
			t.Errorf("NiceOk(%d) is false", row.nice)
		}
		if got := impl.WeightOf(row.nice); got != row.weight {
			t.Errorf("WeightOf(%d) = %d, want %d", row.nice, got, row.weight)
		}
		if got := impl.StepOf(row.nice); got != row.step {
			t.Errorf("StepOf(%d) = %d, want %d", row.nice, got, row.step)
		}
		if impl.StepOf(row.nice)*impl.WeightOf(row.nice) != impl.Scale {
			t.Errorf("step by weight of %d is not Scale", row.nice)
		}
	}
}

func TestWhatIsNoNice(t *testing.T) {
	for _, none := range noNices() {
		if impl.NiceOk(none) {
			t.Errorf("NiceOk(%d)", none)
		}
		if got := impl.WeightOf(none); got != 0 {
			t.Errorf("WeightOf(%d) = %d", none, got)
		}
		if got := impl.StepOf(none); got != 0 {
			t.Errorf("StepOf(%d) = %d", none, got)
		}
	}
}

func TestNicesEndAtFour(t *testing.T) {
	for nice := -300; nice <= 300; nice++ {
		inside := nice >= -4 && nice <= 4
		if impl.NiceOk(nice) != inside || (impl.WeightOf(nice) != 0) != inside || (impl.StepOf(nice) != 0) != inside {
			t.Errorf("%d: %t %d %d", nice, impl.NiceOk(nice), impl.WeightOf(nice), impl.StepOf(nice))
		}
	}
}

func TestWhoIsNicerHasTheGreaterStep(t *testing.T) {
	for a := -4; a <= 4; a++ {
		for b := -4; b <= 4; b++ {
			if (a > b) != (impl.StepOf(a) > impl.StepOf(b)) {
				t.Errorf("steps of %d and %d: %d and %d", a, b, impl.StepOf(a), impl.StepOf(b))
			}
			if (a > b) != (impl.WeightOf(a) < impl.WeightOf(b)) {
				t.Errorf("weights of %d and %d: %d and %d", a, b, impl.WeightOf(a), impl.WeightOf(b))
			}
		}
	}
}

func TestPartAmongFew(t *testing.T) {
	wantPart(t, 0, []int{0, 4}, 6, 13)
	wantPart(t, 4, []int{3, 2, 1, 0, -1, -2, -3, -4}, 1, 76)
	wantPart(t, -4, []int{4, 3, 2, 1, 0, -1, -2, -3}, 24, 76)
	wantPart(t, 2, []int{-1}, 3, 11)
	wantPart(t, -1, []int{2}, 8, 11)
}

// Each of those that are alike counts, and so does nice itself.
func TestPartAmongAlikeOnes(t *testing.T) {
	wantPart(t, 0, []int{0}, 6, 12)
	wantPart(t, 0, []int{0, 0, 0}, 6, 24)
	wantPart(t, 4, []int{4, 4}, 1, 3)
	wantPart(t, -4, []int{-4, -4, -4}, 24, 96)
	wantPart(t, 1, []int{3, 3, 1, 3}, 4, 14)
	wantPart(t, 1, slices.Repeat([]int{-4}, 1000), 4, 24004)
}

func TestPartAlone(t *testing.T) {
	for _, row := range niceRows() {
		wantPart(t, row.nice, nil, row.weight, row.weight)
		wantPart(t, row.nice, []int{}, row.weight, row.weight)
	}
}

func TestPartOfEachTwo(t *testing.T) {
	for _, a := range niceRows() {
		for _, b := range niceRows() {
			wantPart(t, a.nice, []int{b.nice}, a.weight, a.weight+b.weight)
		}
	}
}

func TestPartOfManyLists(t *testing.T) {
	var n numbers
	for range 3000 {
		nice, list := n.below(9)-4, n.nices(n.below(20))
		sum := weightByRow(nice)
		for _, other := range list {
			sum += weightByRow(other)
		}
		wantPart(t, nice, list, weightByRow(nice), sum)
	}
}

func TestPartWithWhatIsNoNice(t *testing.T) {
	for _, none := range noNices() {
		wantNoPart(t, none, nil)
		wantNoPart(t, none, []int{})
		wantNoPart(t, none, []int{0, 1})
		wantNoPart(t, none, []int{none})
		for length := 1; length <= 5; length++ {
			for at := range length {
				list := slices.Repeat([]int{-4}, length)
				list[at] = none
				wantNoPart(t, 0, list)
				wantNoPart(t, none, list)
			}
			wantNoPart(t, 4, slices.Repeat([]int{none}, length))
		}
	}
	wantNoPart(t, 0, []int{5, -5})
	wantNoPart(t, 0, []int{math.MinInt, math.MaxInt, 1})
}

func TestPartsWriteIntoNothing(t *testing.T) {
	var n numbers
	for length := range 9 {
		room := n.nices(12)
		room[length] = 77
		before := slices.Clone(room)
		for _, list := range [][]int{room[:length], room[1 : length+1], room[length:]} {
			impl.PartOf(0, list)
			impl.PartOf(9, list)
		}
		if !slices.Equal(room, before) {
			t.Errorf("%v became %v", before, room)
		}
	}
}

func TestWeightsAreTheSameForAllWhoAskAtOnce(t *testing.T) {
	var wait sync.WaitGroup
	for range 16 {
		wait.Go(func() {
			for _, row := range niceRows() {
				if got := impl.WeightOf(row.nice); got != row.weight {
					t.Errorf("WeightOf(%d) = %d", row.nice, got)
				}
				wantPart(t, row.nice, []int{row.nice}, row.weight, 2*row.weight)
			}
		})
	}
	wait.Wait()
}

// WeightOf tells the weight that the function works out, PartOf the one that
// stands in the array (TestWhoReadsTheArrayOfWeights sees to that).
func TestArrayAndFunctionTellTheSameWeight(t *testing.T) {
	for nice := -4; nice <= 4; nice++ {
		worked := impl.WeightOf(nice)
		if stands, _, ok := impl.PartOf(nice, nil); !ok || stands != worked {
			t.Errorf("nice %d: %d stands in the array, %d is worked out", nice, stands, worked)
		}
		if _, sum, ok := impl.PartOf(0, []int{nice}); !ok || sum != impl.WeightOf(0)+worked {
			t.Errorf("nice %d among others: the sum is %d, %d is worked out", nice, sum, worked)
		}
		if impl.StepOf(nice)*worked != impl.Scale {
			t.Errorf("nice %d: step %d, weight %d", nice, impl.StepOf(nice), worked)
		}
	}
}

// weightNames tells which names of the package level of l02_weight.go each of
// its functions uses.
func weightNames(t *testing.T) map[string][]string {
	file, err := parser.ParseFile(token.NewFileSet(), "../impl/l02_weight.go", nil, 0)
	if err != nil {
		t.Fatal(err)
	}
	uses := map[string][]string{}
	for _, decl := range file.Decls {
		fn, ok := decl.(*ast.FuncDecl)
		if !ok {
			continue
		}
		ast.Inspect(fn.Body, func(n ast.Node) bool {
			if id, ok := n.(*ast.Ident); ok && file.Scope.Lookup(id.Name) != nil {
				uses[fn.Name.Name] = append(uses[fn.Name.Name], id.Name)
			}
			return true
		})
	}
	return uses
}

func reaches(uses map[string][]string, from string, to string) bool {
	seen := map[string]bool{}
	var walk func(string) bool
	walk = func(name string) bool {
		if name == to {
			return true
		}
		if seen[name] {
			return false
		}
		seen[name] = true
		return slices.ContainsFunc(uses[name], walk)
	}
	return walk(from)
}

func TestWhoReadsTheArrayOfWeights(t *testing.T) {
	uses := weightNames(t)
	for _, variable := range []string{"weightsOnce", "weights"} {
		for _, name := range []string{"NiceOk", "WeightOf", "StepOf"} {
			if reaches(uses, name, variable) {
				t.Errorf("%s reads %s", name, variable)
			}
		}
		if !reaches(uses, "PartOf", variable) {
			t.Errorf("PartOf does not read %s", variable)
		}
	}
	if reaches(uses, "PartOf", "WeightOf") {
		t.Error("PartOf tells what WeightOf works out, not what stands in the array")
	}
}
