package tests

import (
	"math"
	"slices"
	"testing"

	"loop.example/g00185/impl"
)

const mostV = 100000000

// fairWith has numbers in every other field too, so that one that is lost shows.
func fairWith(nice int, v int) impl.Task {
	return impl.Task{No: 700, Class: 3, Cpu: 3, State: 2, Idle: true, Nice: nice, V: v}
}

// fairsAt are numbered from 1 on, with nices and processors that change.
func fairsAt(vs ...int) []impl.Task {
	list := make([]impl.Task, len(vs))
	for i, v := range vs {
		list[i] = impl.Task{No: 1 + i%1000, Class: 3, Cpu: i % 4, State: 1 + i%2, Idle: i%3 == 0, Nice: i%9 - 4, V: v}
	}
	return list
}

func rightVs() []int { return []int{0, 1, 2, 29, 30, 31, 50000000, mostV - 1, mostV} }

func wrongVs() []int {
	return []int{-1, -2, -30, -mostV, mostV + 1, mostV + 2, 2 * mostV, 1 << 32, 1<<32 + 30, math.MinInt, math.MinInt + 1,
		math.MinInt + mostV, math.MaxInt - mostV, math.MaxInt - 1, math.MaxInt}
}

func rightCpus() []int { return []int{0, 1, 2, 3} }

func wrongCpus() []int {
	return []int{-1, -2, -4, 4, 5, 256, 1 << 32, 1<<32 + 1, math.MinInt, math.MinInt + 1, math.MaxInt - 1, math.MaxInt}
}

// tasksThatAreNotFair are wrong ones of every class, and right ones of the others.
func tasksThatAreNotFair() []impl.Task {
	list := []impl.Task{dueTask(), fixedTask(), {Idle: true}}
	for _, no := range []int{5, 0, -1, 1001, math.MinInt, math.MaxInt} {
		list = append(list, wrongTasks(no)...)
	}
	others := []impl.Task{dueTask(), dueWith(1, 1, 0, 0), dueWith(40, 40, 40, 100040), fixedTask(), fixedWith(1, 0, 0, 0),
		fixedWith(20, 10, 10, 1000000)}
	for _, t := range others {
		list = append(list, changed(t, "State", 1), changed(t, "State", 2), changed(t, "No", 1), changed(t, "No", 1000))
	}
	for _, t := range []impl.Task{fairTask(), fairWith(-4, 0), fairWith(4, mostV), fairWith(0, 30)} {
		list = append(list, changed(t, "V", -1), changed(t, "V", mostV+1), changed(t, "Nice", -5), changed(t, "Nice", 5),
			changed(t, "State", 0), changed(t, "State", 3), changed(t, "Cpu", -1), changed(t, "Cpu", 4), changed(t, "No", 0),
			changed(t, "No", 1001))
		for _, f := range taskFields() {
			list = append(list, changed(t, f.name, math.MinInt), changed(t, f.name, math.MaxInt))
			if !slices.Contains(namedBy(3), f.name) {
				list = append(list, changed(t, f.name, 1), changed(t, f.name, -1))
			}
		}
		for _, class := range []int{0, 1, 2, 4, -1, 259, 1<<32 + 3} {
			list = append(list, changed(t, "Class", class))
		}
	}
	return list
}

func wantFairBefore(t *testing.T, a impl.Task, b impl.Task, want bool) {
	t.Helper()
	if got := impl.FairBefore(a, b); got != want {
		t.Errorf("FairBefore(%+v, %+v) = %t", a, b, got)
	}
}

func wantFairSpend(t *testing.T, task impl.Task, v int) {
	t.Helper()
	want := changed(task, "V", v)
	if got := impl.FairSpend(task); got != want {
		t.Errorf("FairSpend(%+v) = %+v; want %+v", task, got, want)
	}
}

func wantFairWake(t *testing.T, task impl.Task, floor int, v int) {
	t.Helper()
	want := changed(task, "V", v)
	if got := impl.FairWake(task, floor); got != want {
		t.Errorf("FairWake(%+v, %d) = %+v; want %+v", task, floor, got, want)
	}
}

func wantFairMove(t *testing.T, task impl.Task, cpu int, from int, to int, v int) {
	t.Helper()
	want := changed(changed(task, "Cpu", cpu), "V", v)
	if got := impl.FairMove(task, cpu, from, to); got != want {
		t.Errorf("FairMove(%+v, %d, %d, %d) = %+v; want %+v", task, cpu, from, to, got, want)
	}
}

func wantNotMoved(t *testing.T, task impl.Task, cpu int, from int, to int) {
	t.Helper()
	if got := impl.FairMove(task, cpu, from, to); got != task {
		t.Errorf("FairMove(%+v, %d, %d, %d) = %+v; want it as it is", task, cpu, from, to, got)
	}
}

// wantFloor asks that the list stays as it was, too.
func wantFloor(t *testing.T, list []impl.Task, floor int, want int) {
	t.Helper()
	was := slices.Clone(list)
	if got := impl.FairFloor(list, floor); got != want {
		t.Errorf("FairFloor(%+v, %d) = %d; want %d", list, floor, got, want)
	}
	if !slices.Equal(list, was) {
		t.Errorf("FairFloor changed %+v to %+v", was, list)
	}
}

func wantSpread(t *testing.T, list []impl.Task, want int) {
	t.Helper()
	was := slices.Clone(list)
	if got := impl.FairSpread(list); got != want {
		t.Errorf("FairSpread(%+v) = %d; want %d", list, got, want)
	}
	if !slices.Equal(list, was) {
		t.Errorf("FairSpread changed %+v to %+v", was, list)
	}
}

func TestTheTasksThatAreNotFairAreNone(t *testing.T) {
	for _, task := range tasksThatAreNotFair() {
		if task.Class == 3 && rightByWord(task) {
			t.Errorf("%+v is a right one", task)
		}
	}
}

func TestFairBeforeOfFew(t *testing.T) {
	a := impl.Task{No: 5, Class: 3, State: 1, Nice: 2, V: 30}
	cases := []struct {
		v, no int
		want  bool
	}{
		{31, 5, true}, {30, 5, false}, {29, 5, false}, {30, 6, true}, {30, 4, false},
		// the V counts ahead of the No
		{31, 4, true}, {31, 6, true}, {31, 1, true}, {29, 6, false}, {29, 4, false}, {29, 1000, false},
		{0, 1000, false}, {mostV, 1, true},
	}
	for _, c := range cases {
		b := impl.Task{No: c.no, Class: 3, State: 1, V: c.v}
		wantFairBefore(t, a, b, c.want)
		alike := c.v == a.V && c.no == a.No
		wantFairBefore(t, b, a, !c.want && !alike)
	}
}

func TestFairBeforeByVAndNo(t *testing.T) {
	nos := []int{1, 2, 6, 7, 499, 500, 999, 1000}
	for _, a := range rightVs() {
		for _, b := range rightVs() {
			for _, first := range nos {
				for _, second := range nos {
					want := a < b || a == b && first < second
					wantFairBefore(t, changed(fairWith(4, a), "No", first), changed(fairWith(-4, b), "No", second), want)
				}
			}
		}
	}
}

// V and No alone count: all else may be less, alike or greater.
func TestNothingElseTellsWhichFairOneIsBefore(t *testing.T) {
	least := impl.Task{No: 5, Class: 3, Cpu: 0, State: 1, Nice: -4, V: 30}
	greatest := impl.Task{No: 5, Class: 3, Cpu: 3, State: 2, Idle: true, Nice: 4, V: 30}
	others := []impl.Task{least, greatest, changed(least, "Cpu", 3), changed(least, "State", 2), changed(least, "Nice", 4),
		changed(greatest, "Nice", 0), changed(greatest, "Nice", -4)}
	for _, a := range others {
		for _, b := range others {
			wantFairBefore(t, a, b, false)
			wantFairBefore(t, changed(a, "V", 29), b, true)
			wantFairBefore(t, changed(a, "V", 31), b, false)
			wantFairBefore(t, changed(a, "No", 4), b, true)
			wantFairBefore(t, changed(a, "No", 6), b, false)
			wantFairBefore(t, changed(changed(a, "V", 29), "No", 1000), b, true)
			wantFairBefore(t, changed(changed(a, "V", 31), "No", 1), b, false)
		}
	}
}

func TestFairBeforeOfTheSameTask(t *testing.T) {
	for _, task := range []impl.Task{fairTask(), fairWith(0, 0), fairWith(4, mostV)} {
		wantFairBefore(t, task, task, false)
	}
	for _, task := range tasksThatAreNotFair() {
		wantFairBefore(t, task, task, false)
	}
}

// Of any three, who is before one that is before another is before that one.
func TestFairBeforeIsAnOrder(t *testing.T) {
	var n numbers
	for range 20000 {
		var three [3]impl.Task
		for i := range three {
			three[i] = changed(fairWith(n.below(9)-4, n.below(3)), "No", 1+n.below(3))
		}
		a, b, c := three[0], three[1], three[2]
		if impl.FairBefore(a, b) && impl.FairBefore(b, a) {
			t.Fatalf("%+v and %+v are before each other", a, b)
		}
		if impl.FairBefore(a, b) && impl.FairBefore(b, c) && !impl.FairBefore(a, c) {
			t.Fatalf("%+v, %+v, %+v", a, b, c)
		}
		if alike := a.V == b.V && a.No == b.No; alike == (impl.FairBefore(a, b) || impl.FairBefore(b, a)) {
			t.Fatalf("%+v and %+v", a, b)
		}
	}
}

func TestFairBeforeOfTasksThatAreNotFair(t *testing.T) {
	right := []impl.Task{fairTask(), fairWith(0, 0), fairWith(4, mostV), changed(fairWith(0, 0), "No", 1)}
	for _, wrong := range tasksThatAreNotFair() {
		for _, task := range right {
			wantFairBefore(t, wrong, task, false)
			wantFairBefore(t, task, wrong, false)
		}
		for _, other := range tasksThatAreNotFair() {
			wantFairBefore(t, wrong, other, false)
		}
	}
}

func TestFairSpendOfEachNice(t *testing.T) {
	steps := []int{2, 3, 4, 6, 8, 12, 16, 24, 48}
	for i, step := range steps {
		for _, v := range []int{0, 1, 30, 50000000, mostV - 48} {
			wantFairSpend(t, fairWith(i-4, v), v+step)
		}
	}
}

// A step up to a hundred million is taken, one beyond it is not, not even in part.
func TestFairSpendAtTheEndOfV(t *testing.T) {
	for i, step := range []int{2, 3, 4, 6, 8, 12, 16, 24, 48} {
		nice := i - 4
		wantFairSpend(t, fairWith(nice, mostV-step-1), mostV-1)
		wantFairSpend(t, fairWith(nice, mostV-step), mostV)
		for ahead := range step {
			wantFairSpend(t, fairWith(nice, mostV-ahead), mostV-ahead)
		}
	}
}

func TestFairWakeBesideTheFloor(t *testing.T) {
	for _, v := range rightVs() {
		for _, floor := range rightVs() {
			for _, nice := range []int{-4, 0, 4} {
				wantFairWake(t, fairWith(nice, v), floor, max(v, floor))
			}
		}
	}
	wantFairWake(t, fairTask(), 29, 30)
	wantFairWake(t, fairTask(), 30, 30)
	wantFairWake(t, fairTask(), 31, 31)
}

func TestFairWakeWithFloorsThatAreNone(t *testing.T) {
	for _, v := range rightVs() {
		for _, floor := range wrongVs() {
			wantFairWake(t, fairWith(0, v), floor, v)
		}
		wantFairWake(t, fairWith(0, v), mostV, mostV)
		wantFairWake(t, fairWith(0, v), mostV+1, v)
		wantFairWake(t, fairWith(0, v), -1, v)
	}
}

func TestFairFloorOfNobody(t *testing.T) {
	none := [][]impl.Task{nil, {}, {dueTask()}, {fixedTask()}, {dueTask(), fixedTask()}, {{}}, tasksThatAreNotFair()}
	for _, task := range tasksThatAreNotFair() {
		none = append(none, []impl.Task{task}, []impl.Task{task, dueTask(), task})
	}
	for _, list := range none {
		for _, floor := range append(wrongVs(), rightVs()...) {
			wantFloor(t, list, floor, floor)
		}
		wantSpread(t, list, 0)
	}
}

func TestFairFloorOfOne(t *testing.T) {
	for _, v := range rightVs() {
		for _, nice := range []int{-4, 0, 4} {
			list := []impl.Task{fairWith(nice, v)}
			for _, floor := range append(wrongVs(), rightVs()...) {
				wantFloor(t, list, floor, max(v, floor))
			}
			wantSpread(t, list, 0)
		}
	}
}

func TestFairFloorOfFew(t *testing.T) {
	cases := []struct {
		vs            []int
		least, spread int
	}{
		{[]int{30, 40}, 30, 10}, {[]int{40, 30}, 30, 10}, {[]int{30, 30}, 30, 0}, {[]int{0, mostV}, 0, mostV},
		{[]int{mostV, 0}, 0, mostV}, {[]int{mostV, mostV}, mostV, 0}, {[]int{0, 0}, 0, 0}, {[]int{mostV, mostV - 1}, mostV - 1, 1},
		{[]int{30, 20, 40}, 20, 20}, {[]int{20, 30, 40}, 20, 20}, {[]int{40, 30, 20}, 20, 20}, {[]int{20, 40, 30}, 20, 20},
		{[]int{40, 20, 30}, 20, 20}, {[]int{30, 40, 20}, 20, 20}, {[]int{7, 7, 5, 7, 7}, 5, 2}, {[]int{7, 7, 9, 7, 7}, 7, 2},
	}
	for _, c := range cases {
		list := fairsAt(c.vs...)
		for _, floor := range []int{math.MinInt, -1, 0, c.least - 1, c.least} {
			wantFloor(t, list, floor, max(c.least, floor))
		}
		// a floor above the least, and above all
		for _, floor := range []int{c.least + 1, c.least + c.spread, c.least + c.spread + 1, mostV + 1, math.MaxInt} {
			wantFloor(t, list, floor, floor)
		}
		wantSpread(t, list, c.spread)
	}
}

func TestFairFloorAmongTheOtherClasses(t *testing.T) {
	due, fixed := changed(dueTask(), "No", 1), changed(fixedTask(), "No", 1000)
	a, b := changed(fairWith(0, 25), "No", 500), changed(fairWith(3, 60), "No", 600)
	lists := [][]impl.Task{
		{due, a, b, fixed}, {due, fixed, a, b}, {a, b, due, fixed}, {b, due, a, fixed}, {fixed, b, due, a}, {a, due, fixed, b},
	}
	for _, list := range lists {
		wantFloor(t, list, 0, 25)
		wantFloor(t, list, 24, 25)
		wantFloor(t, list, 25, 25)
		wantFloor(t, list, 26, 26)
		wantFloor(t, list, 61, 61)
		wantSpread(t, list, 35)
	}
}

// Wrong ones do not count, wherever they stand, with whatever V.
func TestFairFloorAmongWrongOnes(t *testing.T) {
	a, b := fairWith(0, 25), changed(fairWith(3, 60), "No", 701)
	for _, wrong := range tasksThatAreNotFair() {
		for at := range 3 {
			list := slices.Insert([]impl.Task{a, b}, at, wrong)
			wantFloor(t, list, 0, 25)
			wantFloor(t, list, 26, 26)
			wantSpread(t, list, 35)
		}
	}
	for _, v := range wrongVs() {
		list := []impl.Task{fairWith(0, v), a, fairWith(1, v), b, fairWith(2, v)}
		wantFloor(t, list, 0, 25)
		wantSpread(t, list, 35)
	}
	for _, v := range rightVs() {
		for _, field := range []string{"No", "State"} {
			list := []impl.Task{changed(fairWith(0, v), field, 0), a, b, changed(fairWith(0, v), field, 0)}
			wantFloor(t, list, 0, 25)
			wantSpread(t, list, 35)
		}
	}
	list := slices.Concat(tasksThatAreNotFair(), []impl.Task{b}, tasksThatAreNotFair(), []impl.Task{a}, tasksThatAreNotFair())
	wantFloor(t, list, 0, 25)
	wantSpread(t, list, 35)
}

// Neither the state of a task nor its processor takes it out of the count.
func TestFairFloorCountsThoseThatDoNotRun(t *testing.T) {
	for cpu := range 4 {
		for _, state := range []int{1, 2} {
			for _, idle := range []bool{false, true} {
				list := []impl.Task{{No: 4, Class: 3, State: 1, V: 50}, {No: 9, Class: 3, Cpu: cpu, State: state, Idle: idle, V: 20}}
				wantFloor(t, list, 3, 20)
				wantSpread(t, list, 30)
			}
		}
	}
}

func TestFairFloorOfTheSameNumberTwice(t *testing.T) {
	for _, vs := range [][2]int{{30, 20}, {20, 30}, {20, 20}, {0, mostV}, {mostV, 0}} {
		list := []impl.Task{fairWith(0, vs[0]), fairWith(0, vs[1])}
		wantFloor(t, list, 0, min(vs[0], vs[1]))
		wantSpread(t, list, max(vs[0], vs[1])-min(vs[0], vs[1]))
	}
	wantFloor(t, []impl.Task{fairTask(), fairTask(), fairTask()}, 0, 30)
	wantSpread(t, []impl.Task{fairTask(), fairTask(), fairTask()}, 0)
}

func TestFairFloorOfListsThatAreNotInOrder(t *testing.T) {
	list := fairsAt(40, 30, 60, 20, 50)
	slices.Reverse(list)
	wantFloor(t, list, 0, 20)
	wantSpread(t, list, 40)
	for at := range list {
		turned := slices.Concat(list[at:], list[:at])
		wantFloor(t, turned, 0, 20)
		wantSpread(t, turned, 40)
	}
}

// The least and the most stand at each place of lists of each length, also of
// more than MaxTasks.
func TestFairFloorAtEachPlace(t *testing.T) {
	for length := 1; length <= 40; length++ {
		for at := range length {
			vs := make([]int, length)
			for i := range vs {
				vs[i] = 100 + i*37%length
			}
			vs[at] = 99
			least := fairsAt(vs...)
			wantFloor(t, least, 0, 99)
			wantFloor(t, least, 100, 100)
			wantSpread(t, least, slices.Max(vs)-99)
			vs[at] = 9000
			most := fairsAt(vs...)
			wantFloor(t, most, 0, slices.Min(vs))
			wantSpread(t, most, 9000-slices.Min(vs))
		}
	}
}

func TestFairFloorOfLongLists(t *testing.T) {
	var up, down []int
	for i := range 100000 {
		up = append(up, 7+i)
		down = append(down, 100006-i)
	}
	for _, list := range [][]impl.Task{fairsAt(up...), fairsAt(down...)} {
		if impl.FairFloor(list, 3) != 7 || impl.FairFloor(list, 8) != 8 || impl.FairSpread(list) != 99999 {
			t.Error(impl.FairFloor(list, 3), impl.FairFloor(list, 8), impl.FairSpread(list))
		}
	}
}

func TestFairFloorOfManyLists(t *testing.T) {
	var n numbers
	above := 0
	for range 20000 {
		list := make([]impl.Task, n.below(15))
		for i := range list {
			list[i] = n.fair()
		}
		floor := n.oneOf(-1, 0, 5, 30, 31, mostV, mostV+1, n.below(mostV))
		wantFloor(t, list, floor, flooredByWord(list, floor))
		wantSpread(t, list, spreadByWord(list))
		if flooredByWord(list, floor) > floor {
			above++
		}
	}
	if above < 2000 || above > 18000 {
		t.Error("too few of one kind to tell", above)
	}
}

// fair is a right one of any numbers, or now and then one that may be wrong or
// of another class.
func (n *numbers) fair() impl.Task {
	if n.below(3) == 0 {
		return n.task()
	}
	v := n.oneOf(0, 1, 29, 30, 31, mostV-48, mostV-1, mostV, n.below(mostV), n.below(100))
	return changed(fairWith(n.below(9)-4, v), "No", 1+n.below(1000))
}

func isFairByWord(task impl.Task) bool { return task.Class == 3 && rightByWord(task) }

// flooredByWord and the others behind it are the chapter's words once more, of
// tasks that may be wrong.
func flooredByWord(list []impl.Task, floor int) int {
	var vs []int
	for _, task := range list {
		if isFairByWord(task) {
			vs = append(vs, task.V)
		}
	}
	if len(vs) == 0 || slices.Min(vs) < floor {
		return floor
	}
	return slices.Min(vs)
}

func spreadByWord(list []impl.Task) int {
	least, most := math.MaxInt, math.MinInt
	for _, task := range list {
		if isFairByWord(task) {
			least, most = min(least, task.V), max(most, task.V)
		}
	}
	if most < least {
		return 0
	}
	return most - least
}

func fairSpentByWord(task impl.Task) impl.Task {
	if isFairByWord(task) {
		if v := task.V + 48/weightByRow(task.Nice); v <= mostV {
			task.V = v
		}
	}
	return task
}

func fairWokenByWord(task impl.Task, floor int) impl.Task {
	if isFairByWord(task) && floor > task.V && floor <= mostV {
		task.V = floor
	}
	return task
}

func fairMovedByWord(task impl.Task, cpu int, from int, to int) impl.Task {
	if !isFairByWord(task) || !between(cpu, 0, 3) || !between(from, 0, mostV) || !between(to, 0, mostV) {
		return task
	}
	v := to
	if task.V > from {
		v += task.V - from
	}
	if v > mostV {
		return task
	}
	task.Cpu, task.V = cpu, v
	return task
}

func fairBeforeByWord(a impl.Task, b impl.Task) bool {
	if !isFairByWord(a) || !isFairByWord(b) {
		return false
	}
	if a.V != b.V {
		return a.V < b.V
	}
	return a.No < b.No
}

func TestManyFairTasksByWord(t *testing.T) {
	var n numbers
	right, spent, woken, moved, befores := 0, 0, 0, 0, 0
	count := func(kind *int, it bool) {
		if it {
			*kind++
		}
	}
	for range 60000 {
		a, b := n.fair(), n.fair()
		if n.below(3) == 0 {
			b.V = a.V
		}
		floor := n.oneOf(-1, 0, a.V-1, a.V, a.V+1, mostV, mostV+1, n.below(mostV))
		cpu := n.oneOf(-1, 0, 1, 2, 3, 4)
		from := n.oneOf(-1, 0, a.V-1, a.V, a.V+1, a.V-30, mostV, mostV+1, n.below(mostV))
		to := n.oneOf(-1, 0, 1, mostV-30, mostV-29, mostV-1, mostV, mostV+1, mostV-a.V, mostV-a.V+1, n.below(mostV))
		wantFairBefore(t, a, b, fairBeforeByWord(a, b))
		wantFairSpend(t, a, fairSpentByWord(a).V)
		wantFairWake(t, a, floor, fairWokenByWord(a, floor).V)
		want := fairMovedByWord(a, cpu, from, to)
		if got := impl.FairMove(a, cpu, from, to); got != want {
			t.Errorf("FairMove(%+v, %d, %d, %d) = %+v; want %+v", a, cpu, from, to, got, want)
		}
		count(&right, isFairByWord(a))
		count(&spent, fairSpentByWord(a) != a)
		count(&woken, fairWokenByWord(a, floor) != a)
		count(&moved, want != a)
		count(&befores, fairBeforeByWord(a, b))
	}
	if right < 6000 || right > 54000 || spent < 6000 || woken < 6000 || moved < 6000 || befores < 6000 {
		t.Errorf("%d are right, %d spent, %d woken, %d moved, %d before another", right, spent, woken, moved, befores)
	}
}

func TestFairMoveUpAndDown(t *testing.T) {
	task := fairWith(-2, 30)
	cases := []struct{ from, to, v int }{
		// from below V, at V and above it
		{20, 100, 110}, {29, 100, 101}, {30, 100, 100}, {31, 100, 100}, {40, 100, 100}, {0, 100, 130},
		{20, 5, 15}, {29, 5, 6}, {30, 5, 5}, {31, 5, 5}, {40, 5, 5}, {0, 5, 35},
		{20, 20, 30}, {30, 30, 30}, {31, 31, 31}, {40, 40, 40}, {0, 0, 30}, {20, 0, 10}, {30, 0, 0}, {31, 0, 0},
		{mostV, 0, 0}, {mostV, 7, 7}, {mostV, mostV, mostV}, {0, mostV - 30, mostV}, {29, mostV - 1, mostV},
		{30, mostV, mostV}, {31, mostV, mostV},
	}
	for _, c := range cases {
		for _, cpu := range rightCpus() {
			wantFairMove(t, task, cpu, c.from, c.to, c.v)
		}
	}
}

// Where the sum would pass a hundred million by one, the Cpu stays too.
func TestFairMoveBeyondTheEndOfV(t *testing.T) {
	for _, cpu := range rightCpus() {
		for _, v := range []int{1, 2, 30, 50000000, mostV - 1, mostV} {
			for _, nice := range []int{-4, 0, 4} {
				task := fairWith(nice, v)
				wantFairMove(t, task, cpu, 0, mostV-v, mostV)
				wantNotMoved(t, task, cpu, 0, mostV-v+1)
				wantNotMoved(t, task, cpu, 0, mostV)
				wantFairMove(t, task, cpu, v-1, mostV-1, mostV)
				wantNotMoved(t, task, cpu, v-1, mostV)
				wantFairMove(t, task, cpu, v, mostV, mostV)
				wantFairMove(t, task, cpu, mostV, mostV, mostV)
			}
		}
		wantFairMove(t, fairWith(0, 0), cpu, 0, mostV, mostV)
		wantFairMove(t, fairWith(0, mostV), cpu, 0, 0, mostV)
		wantNotMoved(t, fairWith(0, mostV), cpu, 0, mostV)
		wantNotMoved(t, fairWith(0, mostV), cpu, 0, 1)
	}
}

func TestFairMoveToTheSameCpu(t *testing.T) {
	for _, cpu := range rightCpus() {
		task := changed(fairWith(1, 30), "Cpu", cpu)
		wantFairMove(t, task, cpu, 20, 100, 110)
		wantFairMove(t, task, cpu, 20, 20, 30)
	}
}

func TestFairMoveWithWhatIsNone(t *testing.T) {
	for _, v := range rightVs() {
		task := fairWith(1, v)
		for _, cpu := range wrongCpus() {
			wantNotMoved(t, task, cpu, 0, 0)
			wantNotMoved(t, task, cpu, v, v)
			wantNotMoved(t, task, cpu, mostV, 5)
			wantNotMoved(t, task, cpu, math.MinInt, math.MaxInt)
		}
		for _, cpu := range append(wrongCpus(), rightCpus()...) {
			for _, wrong := range wrongVs() {
				for _, other := range append(wrongVs(), rightVs()...) {
					wantNotMoved(t, task, cpu, wrong, other)
					wantNotMoved(t, task, cpu, other, wrong)
				}
			}
		}
	}
	wantFairMove(t, fairTask(), 0, mostV, mostV, mostV)
	wantNotMoved(t, fairTask(), 0, mostV+1, 0)
	wantNotMoved(t, fairTask(), 0, mostV, mostV+1)
	wantNotMoved(t, fairTask(), 0, -1, 0)
	wantNotMoved(t, fairTask(), 0, 0, -1)
	wantNotMoved(t, fairTask(), -1, 0, 0)
	wantNotMoved(t, fairTask(), 4, 0, 0)
}

func TestFairInEveryState(t *testing.T) {
	for cpu := range 4 {
		for _, state := range []int{1, 2} {
			for _, idle := range []bool{false, true} {
				for _, no := range []int{1, 1000} {
					task := impl.Task{No: no, Class: 3, Cpu: cpu, State: state, Idle: idle, Nice: 2, V: 30}
					wantFairSpend(t, task, 46)
					wantFairWake(t, task, 77, 77)
					wantFairMove(t, task, 1, 10, 50, 70)
				}
			}
		}
	}
}

func TestTasksThatAreNotFairStayAsTheyAre(t *testing.T) {
	some := []int{math.MinInt, -1, 0, 1, 29, 31, mostV, mostV + 1, math.MaxInt}
	for _, task := range tasksThatAreNotFair() {
		for _, idle := range []bool{false, true} {
			task.Idle = idle
			wantFairSpend(t, task, task.V)
			for _, floor := range append(wrongVs(), rightVs()...) {
				wantFairWake(t, task, floor, task.V)
			}
			for _, cpu := range []int{math.MinInt, -1, 0, 1, 3, 4, math.MaxInt} {
				for _, from := range some {
					for _, to := range some {
						wantNotMoved(t, task, cpu, from, to)
					}
				}
			}
		}
	}
}

func firstFair(list []impl.Task) int {
	for i, task := range list {
		if !slices.ContainsFunc(list, func(other impl.Task) bool { return impl.FairBefore(other, task) }) {
			return i
		}
	}
	return -1
}

// Promise 6: where who had least runs, the floor never goes back, and all stay
// within Scale of it.
func TestWhereWhoHadLeastRunsFloorsNeverGoBack(t *testing.T) {
	var n numbers
	for range 60 {
		var list []impl.Task
		for i := range 1 + n.below(12) {
			task, ok := impl.NewFair(1+i, 0, n.below(9)-4, 0)
			if !ok {
				t.Fatal("no task", i)
			}
			list = append(list, task)
		}
		floor := 0
		for tick := range 400 {
			at := firstFair(list)
			list[at] = impl.FairSpend(list[at])
			next := impl.FairFloor(list, floor)
			if next < floor || impl.FairSpread(list) > impl.Scale {
				t.Fatalf("tick %d: floor %d behind %d, spread %d: %+v", tick, next, floor, impl.FairSpread(list), list)
			}
			floor = next
			for _, task := range list {
				if !impl.TaskOk(task) || !between(task.V, floor, floor+impl.Scale) {
					t.Fatalf("tick %d: floor %d: %+v", tick, floor, task)
				}
			}
		}
		if floor == 0 {
			t.Fatalf("the floor of %+v does not rise", list)
		}
	}
}

// Also where some come and go: who wakes comes to the floor, and who had less
// than the floor does not draw it back.
func TestFloorsNeverGoBackWhereSomeSleep(t *testing.T) {
	var n numbers
	for range 60 {
		list := fairsAt(0, 0, 0, 0, 0, 0)
		asleep := make([]bool, len(list))
		floor := 0
		for tick := range 400 {
			i := n.below(len(list))
			if asleep[i] {
				list[i] = impl.FairWake(list[i], floor)
				if list[i].V < floor {
					t.Fatalf("tick %d: %+v woke below the floor %d", tick, list[i], floor)
				}
			}
			asleep[i] = !asleep[i]
			var awake []impl.Task
			for j, task := range list {
				if !asleep[j] {
					awake = append(awake, task)
				}
			}
			next := impl.FairFloor(awake, floor)
			if next < floor || len(awake) == 0 && next != floor {
				t.Fatalf("tick %d: floor %d behind %d: %+v", tick, next, floor, awake)
			}
			floor = next
			if at := firstFair(awake); at >= 0 {
				who := impl.TaskAt(list, awake[at].No)
				list[who] = impl.FairSpend(list[who])
			}
		}
	}
}

// Promise 6: what is moved is as far above the new floor as it was above the
// old one, and comes back to where it was.
func TestWhatIsMovedIsAsFarAboveTheNewFloor(t *testing.T) {
	var n numbers
	for range 20000 {
		from, to, above := n.below(mostV-48), n.below(mostV-48), n.below(49)
		task := changed(fairWith(n.below(9)-4, from+above), "Cpu", n.below(4))
		moved := impl.FairMove(task, n.below(4), from, to)
		if moved.V-to != above || !impl.TaskOk(moved) {
			t.Fatalf("%+v moved from %d to %d is %+v", task, from, to, moved)
		}
		if back := impl.FairMove(moved, task.Cpu, to, from); back != task {
			t.Fatalf("%+v came back as %+v", task, back)
		}
	}
	for _, from := range rightVs() {
		for _, to := range rightVs() {
			for _, v := range rightVs() {
				if v <= from {
					wantFairMove(t, fairWith(0, v), 1, from, to, to)
				}
			}
		}
	}
}

// Turns are by weight: within Scale of each other, whatever the nices.
func TestFairTurnsAreByWeight(t *testing.T) {
	for a := -4; a <= 4; a++ {
		for b := -4; b <= 4; b++ {
			first, _ := impl.NewFair(1, 0, a, 0)
			second, _ := impl.NewFair(2, 0, b, 0)
			list, turns := []impl.Task{first, second}, [2]int{}
			for range 10 * (weightByRow(a) + weightByRow(b)) {
				at := firstFair(list)
				list[at] = impl.FairSpend(list[at])
				turns[at]++
			}
			if turns != [2]int{10 * weightByRow(a), 10 * weightByRow(b)} {
				t.Errorf("nices %d and %d had %v turns", a, b, turns)
			}
		}
	}
}

func TestFairListsWriteIntoNothing(t *testing.T) {
	room := slices.Concat(fairsAt(40, 30, 20), tasksOfEachClass(), fairsAt(10, 5, mostV))
	was := slices.Clone(room)
	for length := range len(room) + 1 {
		impl.FairFloor(room[:length], 25)
		impl.FairSpread(room[:length])
		if !slices.Equal(room, was) {
			t.Fatalf("of %d: %+v", length, room)
		}
	}
}

func TestFairSharesKeepNothing(t *testing.T) {
	little, much := fairWith(0, 30), fairWith(4, 60)
	list := []impl.Task{much, little}
	for range 3 {
		wantFairBefore(t, little, much, true)
		wantFairBefore(t, much, little, false)
		wantFairBefore(t, much, much, false)
		wantFairSpend(t, little, 38)
		wantFairWake(t, little, 50, 50)
		wantFairMove(t, little, 0, 20, 5, 15)
		wantFloor(t, list, 7, 30)
		wantFloor(t, list[:1], 7, 60)
		wantFloor(t, nil, 7, 7)
		wantSpread(t, list, 30)
		wantSpread(t, list[:1], 0)
	}
}
