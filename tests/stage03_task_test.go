package tests

import (
	"math"
	"slices"
	"testing"

	"loop.example/g00185/impl"
)

func dueTask() impl.Task {
	return impl.Task{No: 5, Class: impl.ClDue, Cpu: 1, State: impl.StReady, Q: 3, P: 10, Left: 2, Due: 17}
}

func fixedTask() impl.Task {
	return impl.Task{No: 3, Class: impl.ClFixed, Cpu: 0, State: impl.StAsleep, Prio: 4, Round: 6, Left: 2, Seq: 9}
}

func fairTask() impl.Task {
	return impl.Task{No: 8, Class: impl.ClFair, Cpu: 2, State: impl.StReady, Nice: -1, V: 30}
}

func tasksOfEachClass() []impl.Task {
	return []impl.Task{dueTask(), fixedTask(), fairTask()}
}

type taskField struct {
	name string
	of   func(t *impl.Task) *int
}

func taskFields() []taskField {
	return []taskField{
		{"No", func(t *impl.Task) *int { return &t.No }},
		{"Class", func(t *impl.Task) *int { return &t.Class }},
		{"Cpu", func(t *impl.Task) *int { return &t.Cpu }},
		{"State", func(t *impl.Task) *int { return &t.State }},
		{"Q", func(t *impl.Task) *int { return &t.Q }},
		{"P", func(t *impl.Task) *int { return &t.P }},
		{"Left", func(t *impl.Task) *int { return &t.Left }},
		{"Due", func(t *impl.Task) *int { return &t.Due }},
		{"Prio", func(t *impl.Task) *int { return &t.Prio }},
		{"Round", func(t *impl.Task) *int { return &t.Round }},
		{"Seq", func(t *impl.Task) *int { return &t.Seq }},
		{"Nice", func(t *impl.Task) *int { return &t.Nice }},
		{"V", func(t *impl.Task) *int { return &t.V }},
	}
}

func changed(t impl.Task, field string, value int) impl.Task {
	for _, f := range taskFields() {
		if f.name == field {
			*f.of(&t) = value
			return t
		}
	}
	panic("no field " + field)
}

func namedBy(class int) []string {
	every := []string{"No", "Class", "Cpu", "State"}
	switch class {
	case impl.ClDue:
		return append(every, "Q", "P", "Left", "Due")
	case impl.ClFixed:
		return append(every, "Prio", "Round", "Left", "Seq")
	case impl.ClFair:
		return append(every, "Nice", "V")
	}
	return nil
}

func between(n int, least int, greatest int) bool { return n >= least && n <= greatest }

// rightByWord is the chapter's word once more, with its numbers written out.
func rightByWord(t impl.Task) bool {
	named := namedBy(t.Class)
	if named == nil || !between(t.No, 1, 1000) || !between(t.Cpu, 0, 3) || !between(t.State, 1, 2) {
		return false
	}
	for _, f := range taskFields() {
		if *f.of(&t) != 0 && !slices.Contains(named, f.name) {
			return false
		}
	}
	switch t.Class {
	case 1:
		return between(t.P, 1, 40) && between(t.Q, 1, t.P) && between(t.Left, 0, t.Q) && between(t.Due, 0, 100040)
	case 2:
		left := t.Left == 0 && t.Round == 0 || t.Left >= 1 && t.Left <= t.Round
		return between(t.Prio, 1, 20) && between(t.Round, 0, 10) && left && between(t.Seq, 0, 1000000)
	}
	return between(t.Nice, -4, 4) && between(t.V, 0, 100000000)
}

func wantTaskOk(t *testing.T, task impl.Task, want bool) {
	t.Helper()
	if got := impl.TaskOk(task); got != want {
		t.Errorf("TaskOk(%+v) = %t", task, got)
	}
}

func wantNew(t *testing.T, what string, got impl.Task, ok bool, want impl.Task) {
	t.Helper()
	if got != want || !ok {
		t.Errorf("%s = %+v, %t; want %+v, true", what, got, ok, want)
	}
	wantTaskOk(t, got, true)
}

func wantNotNew(t *testing.T, what string, got impl.Task, ok bool) {
	t.Helper()
	if got != (impl.Task{}) || ok {
		t.Errorf("%s = %+v, %t; want zero and false", what, got, ok)
	}
}

func TestTaskConstants(t *testing.T) {
	if impl.ClDue != 1 || impl.ClFixed != 2 || impl.ClFair != 3 || impl.StReady != 1 || impl.StAsleep != 2 {
		t.Error("classes and states")
	}
	limits := []int{impl.MaxNo, impl.MaxCpus, impl.MaxTime, impl.MaxPrio, impl.MaxRound, impl.MaxTasks}
	if !slices.Equal(limits, []int{1000, 4, 100000, 20, 10, 12}) {
		t.Error(limits)
	}
}

func TestTaskOkOfOrdinaryOnes(t *testing.T) {
	for _, task := range tasksOfEachClass() {
		for _, state := range []int{impl.StReady, impl.StAsleep} {
			for _, idle := range []bool{false, true} {
				task.State, task.Idle = state, idle
				wantTaskOk(t, task, true)
			}
		}
	}
	wantTaskOk(t, impl.Task{}, false)
	wantTaskOk(t, impl.Task{Idle: true}, false)
}

func TestTaskLimitsMetAndPassed(t *testing.T) {
	due, fixed, fair := dueTask(), fixedTask(), fairTask()
	least := changed(changed(changed(due, "Q", 1), "P", 1), "Left", 1)
	greatest := changed(changed(changed(due, "Q", 40), "P", 40), "Left", 40)
	cases := []struct {
		task            impl.Task
		field           string
		least, greatest int
	}{
		{due, "No", 1, 1000}, {fixed, "No", 1, 1000}, {fair, "No", 1, 1000},
		{due, "Cpu", 0, 3}, {fixed, "Cpu", 0, 3}, {fair, "Cpu", 0, 3},
		{due, "State", 1, 2}, {fixed, "State", 1, 2}, {fair, "State", 1, 2},
		{due, "Q", 2, 10}, {due, "P", 3, 40}, {due, "Left", 0, 3}, {due, "Due", 0, 100040},
		{least, "Q", 1, 1}, {least, "P", 1, 40}, {least, "Left", 0, 1},
		{greatest, "Q", 40, 40}, {greatest, "P", 40, 40}, {greatest, "Left", 0, 40},
		{changed(due, "Left", 0), "Q", 1, 10},
		{fixed, "Prio", 1, 20}, {fixed, "Round", 2, 10}, {fixed, "Left", 1, 6}, {fixed, "Seq", 0, 1000000},
		{changed(fixed, "Left", 1), "Round", 1, 10}, {changed(fixed, "Round", 10), "Left", 1, 10},
		{changed(fixed, "Round", 1), "Left", 1, 1}, {changed(fixed, "Round", 0), "Left", 0, 0},
		{changed(fixed, "Left", 0), "Round", 0, 0},
		{fair, "Nice", -4, 4}, {fair, "V", 0, 100000000},
	}
	for _, c := range cases {
		inside := []int{c.least, c.greatest, (c.least + c.greatest) / 2}
		outside := []int{c.least - 1, c.greatest + 1, -c.greatest - 1000, math.MinInt, math.MinInt + 1, math.MaxInt}
		for _, n := range inside {
			wantTaskOk(t, changed(c.task, c.field, n), true)
		}
		for _, n := range outside {
			wantTaskOk(t, changed(c.task, c.field, n), false)
		}
	}
}

func TestWhatAClassDoesNotNameIsNought(t *testing.T) {
	others := []int{1, -1, 2, 1000, 1 << 32, math.MaxInt, math.MinInt}
	for _, task := range tasksOfEachClass() {
		unnamed := 0
		for _, f := range taskFields() {
			if slices.Contains(namedBy(task.Class), f.name) {
				continue
			}
			unnamed++
			wantTaskOk(t, changed(task, f.name, 0), true)
			for _, n := range others {
				wantTaskOk(t, changed(task, f.name, n), false)
			}
		}
		if unnamed < 5 {
			t.Error("too few numbers are asked for", unnamed)
		}
	}
}

// Two numbers that are not 0 must not make up for each other.
func TestTwoNumbersThatAClassDoesNotName(t *testing.T) {
	for _, task := range tasksOfEachClass() {
		for _, a := range taskFields() {
			for _, b := range taskFields() {
				for _, n := range []int{1, math.MinInt} {
					both := changed(changed(task, a.name, n), b.name, -n)
					wantTaskOk(t, both, rightByWord(both))
				}
			}
		}
	}
}

func TestClassesAndStatesThatAreNone(t *testing.T) {
	none := []int{0, -1, 4, 5, 256, 257, 1<<32 + 1, math.MaxInt, math.MinInt, math.MinInt + 1}
	for _, task := range tasksOfEachClass() {
		for _, n := range none {
			wantTaskOk(t, changed(task, "Class", n), false)
			wantTaskOk(t, changed(task, "State", n), false)
		}
		wantTaskOk(t, changed(task, "State", 3), false)
		for class := 1; class <= 3; class++ {
			wantTaskOk(t, changed(task, "Class", class), class == task.Class)
		}
	}
}

func TestLeftOfEachRound(t *testing.T) {
	for round := -3; round <= 13; round++ {
		for left := -3; left <= 13; left++ {
			task := changed(changed(fixedTask(), "Round", round), "Left", left)
			want := between(round, 1, 10) && between(left, 1, round) || round == 0 && left == 0
			wantTaskOk(t, task, want)
		}
	}
}

func TestLeftOfEachShare(t *testing.T) {
	for p := -1; p <= 42; p++ {
		for q := -1; q <= 42; q++ {
			for _, left := range []int{-1, 0, 1, q - 1, q, q + 1, p, 41} {
				task := changed(changed(changed(dueTask(), "P", p), "Q", q), "Left", left)
				want := between(p, 1, 40) && between(q, 1, p) && between(left, 0, q)
				wantTaskOk(t, task, want)
			}
		}
	}
}

func TestTasksAtTheEndsOfInt(t *testing.T) {
	ends := []int{math.MinInt, math.MaxInt}
	for class := 0; class <= 4; class++ {
		for choice := range 1 << 12 {
			task := impl.Task{Class: class}
			at := 0
			for _, f := range taskFields() {
				if f.name == "Class" {
					continue
				}
				*f.of(&task) = ends[choice>>at&1]
				at++
			}
			wantTaskOk(t, task, false)
		}
	}
	for _, task := range tasksOfEachClass() {
		for _, f := range taskFields() {
			for _, end := range ends {
				wantTaskOk(t, changed(task, f.name, end), false)
			}
		}
	}
}

func (n *numbers) oneOf(list ...int) int { return list[n.below(len(list))] }

// task is right more often than not.
func (n *numbers) task() impl.Task {
	task := tasksOfEachClass()[n.below(3)]
	for _, f := range taskFields() {
		field := f.of(&task)
		if f.name != "Class" && *field != 0 && n.below(3) == 0 {
			*field = n.oneOf(-5, -1, 0, 1, 2, 3, 4, 10, 11, 20, 21, 40, 41, 1000, 1001, 100040, 100041, 1000000,
				1000001, 100000000, 100000001)
		}
		if n.below(150) == 0 {
			*field = n.oneOf(0, 1, 7, -1)
		}
	}
	task.Idle = n.below(2) == 0
	return task
}

func TestTaskOkOfManyTasks(t *testing.T) {
	var n numbers
	right := 0
	for range 60000 {
		task := n.task()
		wantTaskOk(t, task, rightByWord(task))
		if rightByWord(task) {
			right++
		}
	}
	if right < 6000 || right > 54000 {
		t.Error("too few of one kind to tell", right)
	}
}

func TestNewDue(t *testing.T) {
	for _, now := range []int{0, 1, 7, 99999, 100000} {
		for _, s := range rightShares() {
			for _, no := range []int{1, 1000} {
				for _, cpu := range []int{0, 3} {
					got, ok := impl.NewDue(no, cpu, s.Q, s.P, now)
					want := impl.Task{No: no, Class: 1, Cpu: cpu, State: 1, Q: s.Q, P: s.P, Left: s.Q, Due: now + s.P}
					wantNew(t, "NewDue", got, ok, want)
				}
			}
		}
	}
	got, ok := impl.NewDue(5, 1, 2, 40, 100000)
	wantNew(t, "NewDue", got, ok,
		impl.Task{No: 5, Class: 1, Cpu: 1, State: 1, Q: 2, P: 40, Left: 2, Due: 100040})
}

func TestNotNewDue(t *testing.T) {
	wrong := [][5]int{
		{0, 1, 2, 10, 7}, {1001, 1, 2, 10, 7}, {-1, 1, 2, 10, 7}, {5, -1, 2, 10, 7}, {5, 4, 2, 10, 7},
		{5, 1, 0, 10, 7}, {5, 1, 11, 10, 7}, {5, 1, -1, 10, 7}, {5, 1, 1, 0, 7}, {5, 1, 41, 41, 7}, {5, 1, 1, 41, 7},
		{5, 1, 2, -10, 7}, {5, 1, 0, 0, 0}, {5, 1, -3, -3, 7},
		{5, 1, 2, 10, -1}, {5, 1, 2, 10, 100001}, {5, 1, 1, 1, -1}, {5, 1, 1, 1, 100001}, {5, 1, 2, 40, 100001},
		{5, 1, 2, 40, -40}, {5, 1, 2, 10, -10}, {5, 1, 2, 10, 100030}, {0, 0, 0, 0, 0},
	}
	for _, w := range append(wrong, withEnds([5]int{5, 1, 2, 10, 7})...) {
		got, ok := impl.NewDue(w[0], w[1], w[2], w[3], w[4])
		wantNotNew(t, "NewDue", got, ok)
	}
}

// withEnds puts both ends of int at each one and at each two of the places.
func withEnds(right [5]int) [][5]int {
	var all [][5]int
	ends := []int{math.MinInt, math.MinInt + 1, math.MaxInt - 1, math.MaxInt}
	for a := range right {
		for b := range right {
			for _, first := range ends {
				for _, second := range ends {
					w := right
					w[a], w[b] = first, second
					all = append(all, w)
				}
			}
		}
	}
	return all
}

func TestNewFixed(t *testing.T) {
	for prio := 1; prio <= 20; prio++ {
		for round := 0; round <= 10; round++ {
			for _, seq := range []int{0, 9, 900000, 900001, 1000000} {
				for _, no := range []int{1, 1000} {
					for _, cpu := range []int{0, 3} {
						got, ok := impl.NewFixed(no, cpu, prio, round, seq)
						want := impl.Task{No: no, Class: 2, Cpu: cpu, State: 1, Prio: prio, Round: round, Left: round, Seq: seq}
						wantNew(t, "NewFixed", got, ok, want)
					}
				}
			}
		}
	}
}

func TestNotNewFixed(t *testing.T) {
	wrong := [][5]int{
		{0, 0, 4, 2, 9}, {1001, 0, 4, 2, 9}, {3, -1, 4, 2, 9}, {3, 4, 4, 2, 9}, {3, 0, 0, 2, 9}, {3, 0, 21, 2, 9},
		{3, 0, -4, 2, 9}, {3, 0, 4, -1, 9}, {3, 0, 4, 11, 9}, {3, 0, 4, 2, -1}, {3, 0, 4, 2, 1000001},
		{3, 0, 4, 0, -1}, {3, 0, 4, 0, 1000001}, {0, 0, 0, 0, 0},
	}
	for _, w := range append(wrong, withEnds([5]int{3, 0, 4, 2, 9})...) {
		got, ok := impl.NewFixed(w[0], w[1], w[2], w[3], w[4])
		wantNotNew(t, "NewFixed", got, ok)
	}
}

func TestNewFair(t *testing.T) {
	for nice := -4; nice <= 4; nice++ {
		for _, v := range []int{0, 1, 30, 99999999, 100000000} {
			for _, no := range []int{1, 8, 1000} {
				for cpu := range 4 {
					got, ok := impl.NewFair(no, cpu, nice, v)
					wantNew(t, "NewFair", got, ok, impl.Task{No: no, Class: 3, Cpu: cpu, State: 1, Nice: nice, V: v})
				}
			}
		}
	}
}

func TestNotNewFair(t *testing.T) {
	wrong := [][5]int{
		{0, 0, 0, 0}, {1001, 0, 0, 0}, {-8, 0, 0, 0}, {8, -1, 0, 0}, {8, 4, 0, 0}, {8, 0, -5, 0}, {8, 0, 5, 0},
		{8, 0, 0, -1}, {8, 0, 0, 100000001},
	}
	for _, w := range withEnds([5]int{8, 2, -1, 30}) {
		if w != [5]int{8, 2, -1, 30, w[4]} {
			wrong = append(wrong, w)
		}
	}
	for _, w := range wrong {
		got, ok := impl.NewFair(w[0], w[1], w[2], w[3])
		wantNotNew(t, "NewFair", got, ok)
	}
}

// tasksWith makes right tasks of all classes by turns.
func tasksWith(nos ...int) []impl.Task {
	list := make([]impl.Task, len(nos))
	for i, no := range nos {
		list[i] = changed(tasksOfEachClass()[i%3], "No", no)
	}
	return list
}

// evenTasks have the Nos 2, 4 ..
func evenTasks(count int) []impl.Task {
	nos := make([]int, count)
	for i := range nos {
		nos[i] = 2*i + 2
	}
	return tasksWith(nos...)
}

func TestTaskAt(t *testing.T) {
	list := tasksWith(3, 5, 8, 1000)
	for at, task := range list {
		if got := impl.TaskAt(list, task.No); got != at {
			t.Errorf("TaskAt %d = %d, want %d", task.No, got, at)
		}
	}
	for _, no := range []int{0, 1, 4, 9, 999, 1001, -3, math.MaxInt, math.MinInt} {
		if got := impl.TaskAt(list, no); got != -1 {
			t.Errorf("TaskAt %d = %d, want -1", no, got)
		}
		if impl.TaskAt(nil, no) != -1 || impl.TaskAt([]impl.Task{}, no) != -1 {
			t.Errorf("%d is found in nothing", no)
		}
	}
}

// TaskAt asks nothing of the list: it may be long, of any order and wrong.
func TestTaskAtOfAnyList(t *testing.T) {
	list := []impl.Task{{No: 7}, {No: -2}, {No: 0}, {No: math.MinInt}, {No: 7, Class: 9}, {No: 0}, {No: math.MaxInt}, {No: -2}}
	cases := []struct{ no, want int }{
		{7, 0}, {-2, 1}, {0, 2}, {math.MinInt, 3}, {math.MaxInt, 6}, {1, -1}, {9, -1}, {math.MinInt + 1, -1},
	}
	for _, c := range cases {
		if got := impl.TaskAt(list, c.no); got != c.want {
			t.Errorf("TaskAt %d = %d, want %d", c.no, got, c.want)
		}
	}
	long := make([]impl.Task, 1000)
	long[999].No = 4
	if impl.TaskAt(long, 4) != 999 || impl.TaskAt(long, 0) != 0 || impl.TaskAt(long, 5) != -1 {
		t.Error("long list")
	}
}

func TestTasksOkOfRightLists(t *testing.T) {
	if !impl.TasksOk(nil) || !impl.TasksOk([]impl.Task{}) {
		t.Error("no tasks")
	}
	for count := range 13 {
		if !impl.TasksOk(evenTasks(count)) {
			t.Error("tasks", count)
		}
	}
	for _, task := range tasksOfEachClass() {
		if !impl.TasksOk([]impl.Task{task}) {
			t.Errorf("%+v alone", task)
		}
	}
	if !impl.TasksOk(tasksWith(1, 2, 999, 1000)) {
		t.Error("from the least No to the greatest")
	}
}

func TestTasksOkOfLongLists(t *testing.T) {
	for _, count := range []int{13, 14, 100, 400} {
		if impl.TasksOk(evenTasks(count)) {
			t.Error("tasks", count)
		}
	}
}

func TestTasksOkOfListsThatAreNotAscending(t *testing.T) {
	wrong := [][]int{
		{1, 1}, {2, 1}, {1, 1, 2}, {1, 2, 2}, {2, 1, 3}, {1, 3, 2}, {1, 2, 1}, {3, 2, 1}, {1, 4, 2, 5}, {5, 6, 7, 7},
		{1000, 1}, {1, 2, 3, 4, 5, 6, 7, 8, 9, 10, 11, 11}, {2, 1, 3, 4, 5, 6, 7, 8, 9, 10, 11, 12},
		{1, 2, 3, 4, 5, 7, 6, 8, 9, 10, 11, 12},
	}
	for _, nos := range wrong {
		if impl.TasksOk(tasksWith(nos...)) {
			t.Errorf("ascending: %v", nos)
		}
	}
}

func wrongTasks(no int) []impl.Task {
	due, fixed, fair := dueTask(), fixedTask(), fairTask()
	list := []impl.Task{
		{}, changed(due, "Nice", 1), changed(due, "Left", 4), changed(due, "Due", 100041), changed(due, "P", 41),
		changed(fixed, "Left", 0), changed(fixed, "Round", 1), changed(fixed, "Q", 1), changed(fixed, "Prio", 21),
		changed(fair, "Left", 1), changed(fair, "Nice", 5), changed(fair, "V", -1), changed(fair, "Class", 4),
		changed(fair, "Cpu", 4), changed(fair, "State", 0), changed(fair, "V", math.MaxInt),
	}
	for i := range list {
		list[i].No = no
	}
	return list
}

func TestTasksOkWithOneThatIsWrong(t *testing.T) {
	for _, count := range []int{1, 2, 3, 12} {
		for at := range count {
			for _, wrong := range wrongTasks(2*at + 2) {
				list := evenTasks(count)
				list[at] = wrong
				if impl.TasksOk(list) {
					t.Errorf("%+v at %d of %d", wrong, at, count)
				}
			}
		}
	}
	for _, no := range []int{0, -1, math.MinInt} {
		if impl.TasksOk(tasksWith(no, 1)) {
			t.Error("first No", no)
		}
	}
	for _, no := range []int{1001, math.MaxInt} {
		if impl.TasksOk(tasksWith(1, no)) {
			t.Error("last No", no)
		}
	}
}

func wantPut(t *testing.T, list []impl.Task, task impl.Task, at int) {
	t.Helper()
	want := slices.Insert(slices.Clone(list), at, task)
	got, ok := impl.TaskPut(list, task)
	if !ok || !slices.Equal(got, want) {
		t.Errorf("TaskPut of %d = %+v, %t; want %+v", task.No, got, ok, want)
		return
	}
	if !impl.TasksOk(got) || impl.TaskAt(got, task.No) != at {
		t.Errorf("%d is put at %d, not at %d", task.No, impl.TaskAt(got, task.No), at)
	}
	for i, other := range list {
		place := impl.TaskAt(got, other.No)
		if place != i && place != i+1 || got[place] != other {
			t.Errorf("%+v is no more what it was", other)
		}
	}
}

func wantNotPut(t *testing.T, list []impl.Task, task impl.Task) {
	t.Helper()
	got, ok := impl.TaskPut(list, task)
	if ok || !slices.Equal(got, list) {
		t.Errorf("TaskPut of %+v = %+v, %t; want the list as it was, and false", task, got, ok)
	}
	if len(got) > 0 && &got[0] == &list[0] {
		t.Error("the list itself is answered")
	}
}

func wantNothingPut(t *testing.T, list []impl.Task, task impl.Task) {
	t.Helper()
	if got, ok := impl.TaskPut(list, task); ok || len(got) != 0 {
		t.Errorf("TaskPut of %+v = %+v, %t; want nothing, and false", task, got, ok)
	}
}

func TestPutAtEachPlace(t *testing.T) {
	for count := range 12 {
		list := evenTasks(count)
		for at := range count + 1 {
			for _, task := range tasksOfEachClass() {
				wantPut(t, list, changed(task, "No", 2*at+1), at)
			}
		}
	}
	for _, task := range tasksOfEachClass() {
		wantPut(t, nil, task, 0)
		wantPut(t, []impl.Task{}, task, 0)
		wantPut(t, tasksWith(2, 999), changed(task, "No", 1), 0)
		wantPut(t, tasksWith(2, 999), changed(task, "No", 1000), 2)
	}
}

func TestPutNewTasks(t *testing.T) {
	due, _ := impl.NewDue(700, 1, 2, 10, 7)
	fixed, _ := impl.NewFixed(300, 0, 4, 0, 9)
	fair, _ := impl.NewFair(500, 3, -1, 30)
	for _, order := range [][]impl.Task{
		{due, fixed, fair}, {due, fair, fixed}, {fixed, due, fair}, {fixed, fair, due}, {fair, due, fixed}, {fair, fixed, due},
	} {
		var list []impl.Task
		for _, task := range order {
			more, ok := impl.TaskPut(list, task)
			if !ok {
				t.Fatalf("%+v is not put", task)
			}
			list = more
		}
		if !slices.Equal(list, []impl.Task{fixed, fair, due}) {
			t.Errorf("%+v", list)
		}
	}
}

func TestPutIntoAFullList(t *testing.T) {
	full := evenTasks(12)
	for no := 1; no <= 25; no++ {
		wantNotPut(t, full, changed(fairTask(), "No", no))
	}
	wantPut(t, full[:11], changed(fairTask(), "No", 24), 11)
	wantPut(t, full[1:], changed(fairTask(), "No", 1), 0)
}

func TestPutANumberThatIsThere(t *testing.T) {
	for count := 1; count <= 12; count++ {
		list := evenTasks(count)
		for _, there := range list {
			wantNotPut(t, list, there)
			for _, task := range tasksOfEachClass() {
				wantNotPut(t, list, changed(task, "No", there.No))
			}
		}
	}
}

func TestPutATaskThatIsWrong(t *testing.T) {
	for count := range 13 {
		list := evenTasks(count)
		for no := -1; no <= 27; no++ {
			for _, wrong := range wrongTasks(no) {
				wantNotPut(t, list, wrong)
			}
		}
		for _, no := range []int{0, -1, 1001, math.MaxInt, math.MinInt} {
			wantNotPut(t, list, changed(dueTask(), "No", no))
		}
	}
}

// wrongTaskLists are lists of each way in which one is not TasksOk.
func wrongTaskLists() [][]impl.Task {
	lists := [][]impl.Task{
		tasksWith(2, 1), tasksWith(1, 1), tasksWith(1, 3, 2), tasksWith(2, 2, 3), tasksWith(1, 2, 2), tasksWith(3, 2, 4),
		tasksWith(0), tasksWith(1001), tasksWith(-1, 3), tasksWith(1, math.MaxInt), make([]impl.Task, 1),
		make([]impl.Task, 100), evenTasks(13), evenTasks(400),
	}
	for _, wrong := range wrongTasks(4) {
		lists = append(lists, []impl.Task{wrong})
		for at, nos := range [][]int{{4, 6, 8}, {2, 4, 8}, {1, 2, 4}} {
			list := tasksWith(nos...)
			list[at] = wrong
			lists = append(lists, list)
		}
	}
	return lists
}

func TestPutIntoListsThatAreWrong(t *testing.T) {
	for _, list := range wrongTaskLists() {
		for _, no := range []int{1, 4, 7, 1000, 0, 1001, math.MinInt} {
			wantNothingPut(t, list, changed(fairTask(), "No", no))
		}
		wantNothingPut(t, list, impl.Task{})
	}
}

// The list's spare room is as long as what is put could ever want.
func TestTasksWriteIntoNothing(t *testing.T) {
	for count := range 14 {
		room := make([]impl.Task, 40)
		copy(room, evenTasks(count))
		for i := count; i < len(room); i++ {
			room[i] = impl.Task{No: -i, V: i}
		}
		before := slices.Clone(room)
		for no := 0; no <= 28; no++ {
			list := room[:count]
			impl.TaskPut(list, changed(fairTask(), "No", no))
			impl.TaskPut(list, impl.Task{No: no})
			impl.TaskPut(room, changed(fairTask(), "No", no))
			impl.TaskAt(list, no)
			impl.TasksOk(list)
			impl.TasksOk(room)
		}
		if !slices.Equal(room, before) {
			t.Errorf("%+v became %+v", before, room)
		}
	}
}

func TestPutAnswersNewMemory(t *testing.T) {
	for count := range 13 {
		room := append(make([]impl.Task, 0, 40), evenTasks(count)...)
		for _, no := range []int{0, 1, 2, 5, 9, 24, 25, 26, 1000} {
			before := slices.Clone(room)
			got, _ := impl.TaskPut(room, changed(fairTask(), "No", no))
			got = got[:cap(got)]
			for i := range got {
				got[i] = impl.Task{No: -77}
			}
			if !slices.Equal(room, before) || slices.Contains(room[:cap(room)], impl.Task{No: -77}) {
				t.Fatalf("the answer to %d shares memory with the list of %d", no, count)
			}
		}
	}
}

func TestTasksKeepNothing(t *testing.T) {
	list := tasksWith(2, 4)
	for range 3 {
		wantPut(t, list, changed(dueTask(), "No", 3), 1)
		wantNotPut(t, list, changed(dueTask(), "No", 4))
		wantNothingPut(t, tasksWith(4, 2), dueTask())
		wantPut(t, nil, dueTask(), 0)
	}
}
