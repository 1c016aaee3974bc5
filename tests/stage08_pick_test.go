package tests

import (
	"math"
	"slices"
	"testing"

	"loop.example/g00185/impl"
)

// The tasks of this stage are ready and on processor 0, until they are changed.
func dueNo(no int, left int, due int) impl.Task {
	return impl.Task{No: no, Class: 1, State: 1, Q: 10, P: 40, Left: left, Due: due}
}

func fixedNo(no int, prio int, seq int) impl.Task {
	return impl.Task{No: no, Class: 2, State: 1, Prio: prio, Seq: seq}
}

func fairNo(no int, v int) impl.Task { return impl.Task{No: no, Class: 3, State: 1, V: v} }

func onCpu(cpu int, task impl.Task) impl.Task { return changed(task, "Cpu", cpu) }

func asleep(task impl.Task) impl.Task { return changed(task, "State", 2) }

func idle(task impl.Task) impl.Task {
	task.Idle = true
	return task
}

// with is the list in which task stands for the one of its number.
func with(list []impl.Task, task impl.Task) []impl.Task {
	next := slices.Clone(list)
	next[slices.IndexFunc(next, func(t impl.Task) bool { return t.No == task.No })] = task
	return next
}

// without is the list without the task of that number.
func without(list []impl.Task, no int) []impl.Task {
	return slices.DeleteFunc(slices.Clone(list), func(t impl.Task) bool { return t.No == no })
}

// hikers are the tasks of trail, of all classes, from the last class on.
func hikers() []impl.Task {
	return []impl.Task{fairNo(10, 30), fixedNo(20, 4, 9), dueNo(30, 1, 17), fairNo(40, 20), fixedNo(50, 5, 8), dueNo(60, 2, 40)}
}

// spacious is the list with room behind it, and a look that tells whether all
// of that is as it was.
func spacious[T comparable](list []T, behind ...T) ([]T, func() bool) {
	room := append(slices.Clone(list), behind...)
	was := slices.Clone(room)
	return room[:len(list)], func() bool { return slices.Equal(room, was) }
}

// handedIn are tasks and locks with room behind them; the look fails the test
// where one of them is not as it was.
func handedIn(t *testing.T, what string, tasks []impl.Task, locks []impl.Lock) ([]impl.Task, []impl.Lock, func()) {
	givenTasks, tasksAreAsTheyWere := spacious(tasks, fairNo(77, 1), dueNo(78, 0, 5))
	givenLocks, locksAreAsTheyWere := roomy(locks)
	return givenTasks, givenLocks, func() {
		t.Helper()
		if !tasksAreAsTheyWere() || !locksAreAsTheyWere() {
			t.Errorf("%s of %+v and %v wrote into them", what, tasks, locks)
		}
	}
}

func wantAhead(t *testing.T, a impl.Task, b impl.Task, want bool) {
	t.Helper()
	if got := impl.Before(a, b); got != want {
		t.Errorf("Before(%+v, %+v) = %t", a, b, got)
	}
}

// wantOrder asks for the order both ways round.
func wantOrder(t *testing.T, first impl.Task, second impl.Task) {
	t.Helper()
	wantAhead(t, first, second, true)
	wantAhead(t, second, first, false)
}

func wantExecutor(t *testing.T, tasks []impl.Task, locks []impl.Lock, no int, want int) {
	t.Helper()
	givenTasks, givenLocks, look := handedIn(t, "Executor", tasks, locks)
	if got := impl.Executor(givenTasks, givenLocks, no); got != want {
		t.Errorf("Executor(%+v, %v, %d) = %d; want %d", tasks, locks, no, got, want)
	}
	look()
}

func wantAble(t *testing.T, tasks []impl.Task, locks []impl.Lock, no int, want bool) {
	t.Helper()
	givenTasks, givenLocks, look := handedIn(t, "Able", tasks, locks)
	if got := impl.Able(givenTasks, givenLocks, no); got != want {
		t.Errorf("Able(%+v, %v, %d) = %t", tasks, locks, no, got)
	}
	look()
}

func wantCanTurn(t *testing.T, tasks []impl.Task, locks []impl.Lock, no int, want bool) {
	t.Helper()
	givenTasks, givenLocks, look := handedIn(t, "CanTurn", tasks, locks)
	if got := impl.CanTurn(givenTasks, givenLocks, no); got != want {
		t.Errorf("CanTurn(%+v, %v, %d) = %t", tasks, locks, no, got)
	}
	look()
}

func wantPick(t *testing.T, tasks []impl.Task, locks []impl.Lock, cpu int, context int, executor int) {
	t.Helper()
	givenTasks, givenLocks, look := handedIn(t, "Pick", tasks, locks)
	if a, b := impl.Pick(givenTasks, givenLocks, cpu); a != context || b != executor {
		t.Errorf("Pick(%+v, %v, %d) = %d, %d; want %d, %d", tasks, locks, cpu, a, b, context, executor)
	}
	look()
}

func wantBest(t *testing.T, tasks []impl.Task, list []int, want int) {
	t.Helper()
	givenTasks, _, look := handedIn(t, "BestOf", tasks, nil)
	givenList, listIsAsItWas := spacious(list, -77, 78)
	if got := impl.BestOf(givenTasks, givenList); got != want {
		t.Errorf("BestOf(%+v, %v) = %d; want %d", tasks, list, got, want)
	}
	if look(); !listIsAsItWas() {
		t.Errorf("BestOf(%+v, %v) wrote into the list", tasks, list)
	}
}

// wantNobody asks that in these lists nobody can have a turn, whoever is asked
// for.
func wantNobody(t *testing.T, tasks []impl.Task, locks []impl.Lock, nos []int) {
	t.Helper()
	for _, no := range nos {
		wantExecutor(t, tasks, locks, no, 0)
		wantAble(t, tasks, locks, no, false)
		wantCanTurn(t, tasks, locks, no, false)
	}
	for cpu := -1; cpu <= 4; cpu++ {
		wantPick(t, tasks, locks, cpu, 0, 0)
	}
}

func numbersOf(list []impl.Task) []int {
	nos := make([]int, len(list))
	for i, t := range list {
		nos[i] = t.No
	}
	return nos
}

// The functions named ByWord are the chapter's words once more.
func beforeByWord(a impl.Task, b impl.Task) bool {
	if !rightByWord(a) || !rightByWord(b) {
		return false
	}
	if a.Class != b.Class {
		return a.Class < b.Class
	}
	switch a.Class {
	case 1:
		return a.Due < b.Due || a.Due == b.Due && a.No < b.No
	case 2:
		return fixedBeforeByWord(a, b)
	}
	return fairBeforeByWord(a, b)
}

func tasksOkByWord(list []impl.Task) bool {
	for i, t := range list {
		if !rightByWord(t) || i > 0 && list[i-1].No >= t.No {
			return false
		}
	}
	return len(list) <= 12
}

func taskByWord(list []impl.Task, no int) (impl.Task, bool) {
	for _, t := range list {
		if t.No == no {
			return t, true
		}
	}
	return impl.Task{}, false
}

func executorByWord(tasks []impl.Task, locks []impl.Lock, no int) int {
	if !tasksOkByWord(tasks) || !locksOkByWord(locks) {
		return 0
	}
	chain := chainByWord(locks, no)
	for _, one := range chain {
		if _, known := taskByWord(tasks, one); !known {
			return 0
		}
	}
	return chain[len(chain)-1]
}

func ableByWord(tasks []impl.Task, locks []impl.Lock, no int) bool {
	executor := executorByWord(tasks, locks, no)
	if executor == 0 {
		return false
	}
	context, _ := taskByWord(tasks, no)
	taker, _ := taskByWord(tasks, executor)
	return context.State == 1 && taker.State == 1
}

func canTurnByWord(tasks []impl.Task, locks []impl.Lock, no int) bool {
	context, _ := taskByWord(tasks, no)
	return ableByWord(tasks, locks, no) && (context.Class != 1 || context.Left > 0)
}

// firstByWord is who is before all the others of list; 0 of none.
func firstByWord(list []impl.Task) int {
	for _, t := range list {
		if !slices.ContainsFunc(list, func(other impl.Task) bool { return other.No != t.No && !beforeByWord(t, other) }) {
			return t.No
		}
	}
	return 0
}

func pickByWord(tasks []impl.Task, locks []impl.Lock, cpu int) (int, int) {
	var able []impl.Task
	for _, t := range tasks {
		if t.Cpu == cpu && canTurnByWord(tasks, locks, t.No) {
			able = append(able, t)
		}
	}
	context := firstByWord(able)
	if context == 0 {
		return 0, 0
	}
	return context, executorByWord(tasks, locks, context)
}

func bestByWord(tasks []impl.Task, list []int) int {
	if !tasksOkByWord(tasks) {
		return 0
	}
	var named []impl.Task
	for _, t := range tasks {
		if slices.Contains(list, t.No) {
			named = append(named, t)
		}
	}
	return firstByWord(named)
}

func wantPickingByWord(t *testing.T, tasks []impl.Task, locks []impl.Lock, nos []int) {
	t.Helper()
	for _, no := range nos {
		wantExecutor(t, tasks, locks, no, executorByWord(tasks, locks, no))
		wantAble(t, tasks, locks, no, ableByWord(tasks, locks, no))
		wantCanTurn(t, tasks, locks, no, canTurnByWord(tasks, locks, no))
	}
	for cpu := -1; cpu <= 4; cpu++ {
		context, executor := pickByWord(tasks, locks, cpu)
		wantPick(t, tasks, locks, cpu, context, executor)
	}
	wantBest(t, tasks, nos, bestByWord(tasks, nos))
}

func TestBeforeOfTwoOfOneClass(t *testing.T) {
	wantOrder(t, dueNo(7, 1, 16), dueNo(5, 9, 17))
	wantOrder(t, dueNo(5, 1, 17), dueNo(7, 9, 17))
	wantOrder(t, dueNo(1000, 0, 0), dueNo(1, 10, 100040))
	wantOrder(t, fixedNo(7, 5, 9), fixedNo(5, 4, 2))
	wantOrder(t, fixedNo(7, 4, 2), fixedNo(5, 4, 9))
	wantOrder(t, fixedNo(5, 4, 9), fixedNo(7, 4, 9))
	wantOrder(t, fixedNo(1000, 20, 1000000), fixedNo(1, 1, 0))
	wantOrder(t, fairNo(7, 29), fairNo(5, 30))
	wantOrder(t, fairNo(5, 30), fairNo(7, 30))
	wantOrder(t, fairNo(1000, 0), fairNo(1, mostV))
}

// The class counts ahead of all else, whatever the numbers are.
func TestBeforeOfTwoClasses(t *testing.T) {
	classes := [][]impl.Task{
		{dueNo(1, 1, 0), dueNo(1000, 0, 100040), dueNo(500, 10, 17), dueWith(1, 1, 0, 100040)},
		{fixedNo(1, 20, 0), fixedNo(1000, 1, 1000000), fixedNo(500, 4, 9), fixedWith(1, 10, 1, 1000000)},
		{fairNo(1, 0), fairNo(1000, mostV), fairNo(500, 30), fairWith(4, mostV), fairWith(-4, 0)},
	}
	for first := range classes {
		for second := first + 1; second < 3; second++ {
			for _, a := range classes[first] {
				for _, b := range classes[second] {
					wantOrder(t, a, b)
					wantOrder(t, asleep(a), b)
					wantOrder(t, idle(a), idle(b))
					wantOrder(t, onCpu(3, a), onCpu(0, b))
				}
			}
		}
	}
}

func TestBeforeOfTasksAlikeInAllButTheirNo(t *testing.T) {
	nos := []int{1, 2, 499, 500, 999, 1000}
	for _, task := range append(tasksOfEachClass(), dueNo(1, 0, 0), fixedNo(1, 20, 0), fairNo(1, 0)) {
		for _, a := range nos {
			for _, b := range nos {
				wantAhead(t, changed(task, "No", a), changed(task, "No", b), a < b)
			}
		}
	}
}

// Neither the processor nor the state tells who is before, nor what is left.
func TestNothingElseTellsWhoseTurnComesFirst(t *testing.T) {
	for _, task := range []impl.Task{dueNo(5, 1, 17), fixedNo(5, 4, 9), fairNo(5, 30)} {
		others := []impl.Task{task, asleep(task), idle(task), onCpu(3, task), idle(asleep(onCpu(1, task)))}
		switch task.Class {
		case 1:
			others = append(others, changed(task, "Left", 0), changed(task, "Left", 10), changed(task, "P", 10))
		case 2:
			others = append(others, changed(changed(task, "Round", 10), "Left", 1), changed(changed(task, "Round", 1), "Left", 1))
		case 3:
			others = append(others, changed(task, "Nice", -4), changed(task, "Nice", 4))
		}
		for _, a := range others {
			for _, b := range others {
				wantAhead(t, a, b, false)
				wantOrder(t, a, changed(b, "No", 6))
			}
		}
	}
}

func TestBeforeOfTasksThatAreWrong(t *testing.T) {
	right := []impl.Task{dueNo(5, 1, 17), dueNo(1, 0, 0), fixedNo(5, 4, 9), fixedNo(1, 20, 0), fairNo(5, 30), fairNo(1000, mostV)}
	wrong := slices.DeleteFunc(slices.Concat(tasksThatAreNotDue(), tasksThatAreNotFixed(), tasksThatAreNotFair()), rightByWord)
	if len(wrong) < 200 {
		t.Error("too few to tell", len(wrong))
	}
	for _, a := range wrong {
		for _, b := range right {
			wantAhead(t, a, b, false)
			wantAhead(t, b, a, false)
		}
		wantAhead(t, a, a, false)
		wantAhead(t, a, wrong[0], false)
		wantAhead(t, wrong[len(wrong)-1], a, false)
	}
}

// anyTask is of any class, and not often wrong.
func (n *numbers) anyTask() impl.Task {
	switch n.below(5) {
	case 0:
		return n.task()
	case 1:
		return changed(n.fixed(), "No", 1+n.below(3))
	case 2:
		return changed(n.fair(), "No", 1+n.below(3))
	}
	return dueNo(1+n.below(3), n.below(11), 17+n.below(3))
}

func TestBeforeOfManyByWord(t *testing.T) {
	var n numbers
	var told [2]int
	for range 30000 {
		a, b := n.anyTask(), n.anyTask()
		want := beforeByWord(a, b)
		wantAhead(t, a, b, want)
		if want {
			told[1]++
		} else {
			told[0]++
		}
		if a.Class == b.Class && want != (impl.DueBefore(a, b) || impl.FixedBefore(a, b) || impl.FairBefore(a, b)) {
			t.Fatalf("Before(%+v, %+v) is %t, its class tells another one", a, b, want)
		}
	}
	if min(told[0], told[1]) < 5000 {
		t.Error("too few of one kind to tell", told)
	}
}

// Of any three, who is before one that is before another is before that one.
func TestBeforeIsAnOrderOverAllClasses(t *testing.T) {
	var n numbers
	for range 20000 {
		a, b, c := n.anyTask(), n.anyTask(), n.anyTask()
		if impl.Before(a, b) && impl.Before(b, a) {
			t.Fatalf("%+v and %+v are before each other", a, b)
		}
		if impl.Before(a, b) && impl.Before(b, c) && !impl.Before(a, c) {
			t.Fatalf("%+v, %+v, %+v", a, b, c)
		}
		apart := impl.TaskOk(a) && impl.TaskOk(b) && a.No != b.No
		if apart && !impl.Before(a, b) && !impl.Before(b, a) {
			t.Fatalf("neither of %+v and %+v is before the other", a, b)
		}
	}
}

func TestExecutorOfWhoDoesNotWait(t *testing.T) {
	for _, locks := range [][]impl.Lock{nil, {}, freeLocks(1), freeLocks(5), {lockOf(10), lockOf(10)}, {lockOf(10, 500)}} {
		for _, no := range []int{10, 20, 30, 40, 50, 60} {
			wantExecutor(t, hikers(), locks, no, no)
		}
		wantExecutor(t, []impl.Task{fairNo(1, 0)}, locks, 1, 1)
		wantExecutor(t, []impl.Task{fairNo(1000, 0)}, locks, 1000, 1000)
	}
}

func TestExecutorOfWhoWaits(t *testing.T) {
	locks := []impl.Lock{lockOf(10, 20, 30), lockOf(0), lockOf(40, 50)}
	for no, want := range map[int]int{10: 10, 20: 10, 30: 10, 40: 40, 50: 40, 60: 60} {
		wantExecutor(t, hikers(), locks, no, want)
	}
	wantExecutor(t, []impl.Task{fairNo(1, 0), dueNo(1000, 0, 0)}, []impl.Lock{lockOf(1, 1000)}, 1000, 1)
	wantExecutor(t, []impl.Task{fairNo(1, 0), dueNo(1000, 0, 0)}, []impl.Lock{lockOf(1000, 1)}, 1, 1000)
}

func TestExecutorOverSeveralLocks(t *testing.T) {
	for count := 1; count <= 5; count++ {
		for _, locks := range turnings(trail(count)) {
			for k := 1; k <= 6; k++ {
				want := 10 * k
				if k <= count+1 {
					want = 10
				}
				wantExecutor(t, hikers(), locks, 10*k, want)
			}
		}
	}
}

// Whoever sleeps, is idle or has nothing left is an executor all the same, and
// so is one of another processor.
func TestExecutorInEveryState(t *testing.T) {
	var tasks []impl.Task
	for i, task := range hikers() {
		task = idle(asleep(onCpu(i%4, task)))
		if task.Class == 1 {
			task.Left = 0
		}
		tasks = append(tasks, task)
	}
	for _, no := range numbersOf(tasks) {
		wantExecutor(t, tasks, trail(5), no, 10)
		wantExecutor(t, tasks, nil, no, no)
	}
}

// Where one of the chain is no task there is no executor for whoever comes over
// it; for the others there is.
func TestExecutorOverOneThatIsNoTask(t *testing.T) {
	for gone := 1; gone <= 6; gone++ {
		tasks := without(hikers(), 10*gone)
		for k := 1; k <= 6; k++ {
			want := 10
			if k >= gone {
				want = 0
			}
			wantExecutor(t, tasks, trail(5), 10*k, want)
			wantAble(t, tasks, trail(5), 10*k, want != 0)
			wantCanTurn(t, tasks, trail(5), 10*k, want != 0)
		}
	}
	wantPick(t, without(hikers(), 10), trail(5), 0, 0, 0)
	wantPick(t, without(hikers(), 40), trail(5), 0, 30, 10)
	wantPick(t, without(hikers(), 30), trail(5), 0, 20, 10)
}

func TestLocksOfOthersDoNotMatter(t *testing.T) {
	locks := []impl.Lock{lockOf(500, 600), lockOf(700, 500), lockOf(10, 900), lockOf(999), lockOf(1000, 1)}
	for _, no := range []int{10, 20, 30, 40, 50, 60} {
		wantExecutor(t, hikers(), locks, no, no)
		wantCanTurn(t, hikers(), locks, no, true)
	}
	for _, no := range []int{500, 600, 700, 900, 999, 1000, 1} {
		wantExecutor(t, hikers(), locks, no, 0)
	}
	wantPick(t, hikers(), locks, 0, 30, 30)
}

func TestNumbersThatAreNoTask(t *testing.T) {
	ends := []impl.Task{fairNo(1, 30), fairNo(1000, 20)}
	for _, no := range []int{1, 1000} {
		wantExecutor(t, ends, nil, no, no)
		wantAble(t, ends, nil, no, true)
		wantCanTurn(t, ends, nil, no, true)
		wantBest(t, ends, []int{no}, no)
	}
	for _, no := range append(noNos(), 2, 500, 999) {
		for _, locks := range [][]impl.Lock{nil, freeLocks(5), {lockOf(1, 1000)}} {
			wantExecutor(t, ends, locks, no, 0)
			wantAble(t, ends, locks, no, false)
			wantCanTurn(t, ends, locks, no, false)
		}
		wantBest(t, ends, []int{no}, 0)
		wantBest(t, ends, []int{no, 1, no}, 1)
	}
}

func TestPickingWithoutTasks(t *testing.T) {
	nos := append(noNos(), rightNos()...)
	for _, tasks := range [][]impl.Task{nil, {}} {
		for _, locks := range [][]impl.Lock{nil, {}, freeLocks(5), trail(5), ring(2)} {
			wantNobody(t, tasks, locks, nos)
		}
		wantBest(t, tasks, nos, 0)
		wantBest(t, tasks, nil, 0)
	}
}

func TestAbleOfWhoDoesNotWait(t *testing.T) {
	for _, task := range hikers() {
		for _, task := range []impl.Task{task, idle(task), onCpu(3, task)} {
			for _, locks := range [][]impl.Lock{nil, freeLocks(5), {lockOf(task.No)}, {lockOf(task.No, 500)}} {
				wantAble(t, with(hikers(), task), locks, task.No, true)
				wantAble(t, with(hikers(), asleep(task)), locks, task.No, false)
				wantAble(t, []impl.Task{task}, locks, task.No, true)
				wantAble(t, []impl.Task{asleep(task)}, locks, task.No, false)
			}
		}
	}
}

// Both ends of a chain are to be ready; who stands between them may sleep.
func TestAbleWhereOneOfTheChainSleeps(t *testing.T) {
	for sleeper := 1; sleeper <= 6; sleeper++ {
		for _, locks := range turnings(trail(5)) {
			tasks := with(hikers(), asleep(hikers()[sleeper-1]))
			for k := 1; k <= 6; k++ {
				want := sleeper != 1 && sleeper != k
				wantAble(t, tasks, locks, 10*k, want)
				wantCanTurn(t, tasks, locks, 10*k, want)
			}
		}
	}
}

func TestAllBetweenBothEndsMaySleep(t *testing.T) {
	tasks := hikers()
	for _, at := range []int{1, 2, 3, 4} {
		tasks[at] = asleep(tasks[at])
	}
	wantAble(t, tasks, trail(5), 60, true)
	wantAble(t, tasks, trail(5), 10, true)
	wantPick(t, tasks, trail(5), 0, 60, 10)
	wantPick(t, with(tasks, asleep(dueNo(60, 2, 40))), trail(5), 0, 10, 10)
	wantPick(t, with(tasks, asleep(fairNo(10, 30))), trail(5), 0, 0, 0)
}

func TestAbleOfALocksOwnerThatSleeps(t *testing.T) {
	locks := []impl.Lock{lockOf(10, 20)}
	tasks := []impl.Task{asleep(fairNo(10, 30)), fixedNo(20, 4, 9), fairNo(30, 99)}
	wantExecutor(t, tasks, locks, 20, 10)
	wantAble(t, tasks, locks, 20, false)
	wantPick(t, tasks, locks, 0, 30, 30)
	wantAble(t, with(tasks, fairNo(10, 30)), locks, 20, true)
	wantPick(t, with(tasks, fairNo(10, 30)), locks, 0, 20, 10)
	// the owner waits itself: for one that is ready, then for one that sleeps
	wantPick(t, tasks, append(locks, lockOf(30, 10)), 0, 20, 30)
	wantPick(t, with(tasks, asleep(fairNo(30, 99))), append(locks, lockOf(30, 10)), 0, 0, 0)
}

func TestCanTurnWithNothingLeft(t *testing.T) {
	for left := range 11 {
		task := dueNo(5, left, 17)
		for _, locks := range [][]impl.Lock{nil, freeLocks(5), {lockOf(5)}} {
			wantAble(t, []impl.Task{task}, locks, 5, true)
			wantCanTurn(t, []impl.Task{task}, locks, 5, left > 0)
			wantCanTurn(t, []impl.Task{asleep(task)}, locks, 5, false)
		}
	}
	for _, task := range []impl.Task{dueWith(1, 1, 0, 0), dueWith(1, 1, 1, 0), dueWith(40, 40, 0, 100040), dueWith(40, 40, 40, 100040)} {
		ready := changed(task, "State", 1)
		wantCanTurn(t, []impl.Task{ready}, nil, 700, ready.Left > 0)
	}
}

// Left at 0 holds back a ClDue alone: a ClFixed without a Round has none, and a
// ClFair never.
func TestCanTurnOfTheOtherClasses(t *testing.T) {
	tasks := []impl.Task{fixedNo(1, 4, 9), changed(changed(fixedNo(2, 4, 9), "Round", 3), "Left", 1), fairNo(3, 0), fairNo(4, mostV)}
	for _, task := range tasks {
		wantCanTurn(t, tasks, nil, task.No, true)
		wantCanTurn(t, with(tasks, asleep(task)), nil, task.No, false)
		wantCanTurn(t, with(tasks, idle(task)), nil, task.No, true)
	}
}

// What is left is asked of whose turn it is, not of who takes it.
func TestCanTurnOfAClDueInAChain(t *testing.T) {
	for _, other := range []impl.Task{dueNo(1, 3, 9), fixedNo(1, 4, 9), fairNo(1, 30)} {
		for left := range 3 {
			tasks := []impl.Task{other, dueNo(2, left, 17)}
			waits, owns := []impl.Lock{lockOf(1, 2)}, []impl.Lock{lockOf(2, 1)}
			wantAble(t, tasks, waits, 2, true)
			wantCanTurn(t, tasks, waits, 2, left > 0)
			wantCanTurn(t, tasks, waits, 1, true)
			wantAble(t, tasks, owns, 1, true)
			wantCanTurn(t, tasks, owns, 1, true)
			wantCanTurn(t, tasks, owns, 2, left > 0)
		}
	}
	// with nothing left it has no turn of its own, but takes the one of who waits for it
	wantPick(t, []impl.Task{fairNo(1, 30), dueNo(2, 0, 17)}, []impl.Lock{lockOf(2, 1)}, 0, 1, 2)
	wantPick(t, []impl.Task{fairNo(1, 30), dueNo(2, 1, 17)}, []impl.Lock{lockOf(2, 1)}, 0, 2, 2)
	wantPick(t, []impl.Task{fairNo(1, 30), dueNo(2, 0, 17)}, []impl.Lock{lockOf(1, 2)}, 0, 1, 1)
	wantPick(t, []impl.Task{fairNo(1, 30), dueNo(2, 1, 17)}, []impl.Lock{lockOf(1, 2)}, 0, 2, 1)
	wantPick(t, []impl.Task{dueNo(1, 1, 30), dueNo(2, 0, 17)}, []impl.Lock{lockOf(2, 1)}, 0, 1, 2)
	wantPick(t, []impl.Task{dueNo(1, 0, 30), dueNo(2, 0, 17)}, []impl.Lock{lockOf(2, 1)}, 0, 0, 0)
	// between both ends it is not asked either
	wantPick(t, []impl.Task{fairNo(1, 30), dueNo(2, 0, 17), fixedNo(3, 4, 9)}, []impl.Lock{lockOf(1, 2), lockOf(2, 3)}, 0, 3, 1)
}

func TestPickOfOne(t *testing.T) {
	for _, task := range hikers() {
		for _, cpu := range rightCpus() {
			for _, asked := range rightCpus() {
				want := 0
				if cpu == asked {
					want = task.No
				}
				wantPick(t, []impl.Task{onCpu(cpu, task)}, nil, asked, want, want)
				wantPick(t, []impl.Task{idle(onCpu(cpu, task))}, freeLocks(5), asked, want, want)
				wantPick(t, []impl.Task{asleep(onCpu(cpu, task))}, nil, asked, 0, 0)
			}
		}
	}
}

func TestPickOfOneClass(t *testing.T) {
	dues := []impl.Task{dueNo(1, 1, 18), dueNo(2, 1, 17), dueNo(3, 9, 17), dueNo(4, 0, 3)}
	wantPick(t, dues, nil, 0, 2, 2)
	wantPick(t, with(dues, asleep(dues[1])), nil, 0, 3, 3)
	wantPick(t, with(dues, dueNo(4, 1, 3)), nil, 0, 4, 4)
	fixed := []impl.Task{fixedNo(1, 3, 0), fixedNo(2, 4, 9), fixedNo(3, 4, 8), fixedNo(4, 4, 8)}
	wantPick(t, fixed, nil, 0, 3, 3)
	wantPick(t, with(fixed, asleep(fixed[2])), nil, 0, 4, 4)
	wantPick(t, with(fixed, fixedNo(1, 20, 1000000)), nil, 0, 1, 1)
	fair := []impl.Task{fairNo(1, 31), fairNo(2, 30), fairNo(3, 30), fairNo(4, 99)}
	wantPick(t, fair, nil, 0, 2, 2)
	wantPick(t, with(fair, asleep(fair[1])), nil, 0, 3, 3)
	wantPick(t, with(fair, fairNo(4, 0)), nil, 0, 4, 4)
}

func TestPickOfAllClasses(t *testing.T) {
	tasks := hikers()
	for _, want := range []int{30, 60, 50, 20, 40, 10, 0} {
		wantPick(t, tasks, nil, 0, want, want)
		if want > 0 {
			tasks = with(tasks, asleep(tasks[want/10-1]))
		}
	}
	spent := with(with(hikers(), dueNo(30, 0, 17)), dueNo(60, 0, 40))
	wantPick(t, spent, freeLocks(5), 0, 50, 50)
}

// Whoever is asked for waits: who is before all others has the turn, and the
// end of its chain takes it.
func TestPickAlongAChain(t *testing.T) {
	for _, locks := range turnings(trail(5)) {
		wantPick(t, hikers(), locks, 0, 30, 10)
		wantPick(t, with(hikers(), dueNo(30, 0, 17)), locks, 0, 60, 10)
		wantPick(t, with(with(hikers(), dueNo(30, 0, 17)), asleep(dueNo(60, 2, 40))), locks, 0, 50, 10)
	}
	wantPick(t, hikers(), []impl.Lock{lockOf(20, 30)}, 0, 30, 20)
	wantPick(t, with(hikers(), asleep(fixedNo(20, 4, 9))), []impl.Lock{lockOf(20, 30)}, 0, 60, 60)
}

func TestPickOfTasksAlikeInAllButTheirNo(t *testing.T) {
	for _, task := range []impl.Task{dueNo(1, 1, 17), fixedNo(1, 4, 9), fairNo(1, 30)} {
		var tasks []impl.Task
		for no := 1; no <= 12; no++ {
			tasks = append(tasks, changed(task, "No", no))
		}
		for no := 1; no <= 12; no++ {
			wantPick(t, tasks, nil, 0, no, no)
			tasks[no-1] = asleep(tasks[no-1])
		}
		wantPick(t, tasks, nil, 0, 0, 0)
	}
}

func TestPickOfTwoProcessors(t *testing.T) {
	tasks := []impl.Task{fairNo(1, 30), onCpu(1, dueNo(2, 1, 17)), fixedNo(3, 4, 9), onCpu(1, fairNo(4, 0)), onCpu(3, dueNo(5, 0, 1))}
	wantPick(t, tasks, nil, 0, 3, 3)
	wantPick(t, tasks, nil, 1, 2, 2)
	wantPick(t, tasks, nil, 2, 0, 0)
	wantPick(t, tasks, nil, 3, 0, 0)
	tasks = with(with(tasks, asleep(tasks[1])), dueNo(5, 1, 1))
	wantPick(t, tasks, nil, 0, 5, 5)
	wantPick(t, tasks, nil, 1, 4, 4)
}

// The processor is asked of whose turn it is; who takes it may be of another.
func TestPickOverProcessors(t *testing.T) {
	tasks := []impl.Task{onCpu(2, fairNo(1, 30)), onCpu(1, dueNo(2, 1, 17)), onCpu(1, fairNo(3, 0))}
	locks := []impl.Lock{lockOf(1, 2)}
	wantPick(t, tasks, locks, 1, 2, 1)
	wantPick(t, tasks, locks, 2, 1, 1)
	wantPick(t, tasks, locks, 0, 0, 0)
	wantPick(t, with(tasks, asleep(tasks[0])), locks, 1, 3, 3)
	wantPick(t, with(tasks, asleep(tasks[0])), locks, 2, 0, 0)
}

func TestPickOnProcessorsThatAreNone(t *testing.T) {
	var tasks []impl.Task
	for i, task := range hikers() {
		tasks = append(tasks, onCpu(i%4, task))
	}
	for _, cpu := range wrongCpus() {
		wantPick(t, tasks, nil, cpu, 0, 0)
		wantPick(t, tasks, trail(5), cpu, 0, 0)
		// one of such a processor is not right, and with it nobody is
		odd := with(tasks, onCpu(cpu, tasks[0]))
		wantPick(t, odd, nil, cpu, 0, 0)
		wantPick(t, odd, nil, 1, 0, 0)
	}
}

func TestBestOfFew(t *testing.T) {
	for _, task := range hikers() {
		wantBest(t, hikers(), []int{task.No}, task.No)
		wantBest(t, []impl.Task{task}, []int{task.No}, task.No)
	}
	for _, c := range []struct {
		want int
		list []int
	}{
		{30, []int{10, 20, 30, 40, 50, 60}}, {60, []int{10, 20, 40, 50, 60}}, {50, []int{10, 20, 40, 50}}, {20, []int{10, 20, 40}},
		{40, []int{10, 40}}, {10, []int{10}}, {30, []int{60, 30}}, {30, []int{30, 60}}, {50, []int{50, 20}}, {50, []int{20, 50}},
		{0, nil}, {0, []int{}}, {0, []int{5}}, {0, []int{5, 15, 1000}}, {40, []int{5, 40, 15}}, {20, []int{20, 5}},
		{40, []int{40, 40}}, {40, []int{10, 40, 10, 40, 10}}, {60, []int{60, 60, 50, 50, 60}},
	} {
		wantBest(t, hikers(), c.list, c.want)
		slices.Reverse(c.list)
		wantBest(t, hikers(), c.list, c.want)
	}
}

// BestOf asks for nothing but the order: those that sleep, have nothing left or
// are of other processors count as all others.
func TestBestOfThoseThatCanHaveNoTurn(t *testing.T) {
	tasks := []impl.Task{onCpu(3, asleep(dueNo(1, 0, 17))), idle(fixedNo(2, 20, 0)), asleep(fairNo(3, 0)), onCpu(1, fairNo(4, 1))}
	wantBest(t, tasks, []int{4, 3, 2, 1}, 1)
	wantBest(t, tasks, []int{4, 3, 2}, 2)
	wantBest(t, tasks, []int{4, 3}, 3)
}

func TestBestOfTasksAlikeInAllButTheirNo(t *testing.T) {
	for _, task := range []impl.Task{dueNo(1, 1, 17), fixedNo(1, 4, 9), fairNo(1, 30)} {
		tasks := []impl.Task{task, changed(task, "No", 2), changed(task, "No", 999), changed(task, "No", 1000)}
		wantBest(t, tasks, []int{1000, 999, 2, 1}, 1)
		wantBest(t, tasks, []int{1000, 2, 999}, 2)
		wantBest(t, tasks, []int{1000, 999}, 999)
		wantBest(t, tasks, []int{999, 1000}, 999)
	}
}

func TestBestOfLongLists(t *testing.T) {
	wantBest(t, hikers(), upTo(1000), 30)
	wantBest(t, hikers(), slices.Repeat([]int{10, 20, 40}, 5000), 20)
	wantBest(t, hikers(), slices.Repeat([]int{0, -10, 1001, math.MinInt, math.MaxInt, 1<<32 + 10}, 1000), 0)
	wantBest(t, hikers(), append(slices.Repeat([]int{0, math.MinInt}, 1000), 10), 10)
}

// fullHouse are MaxTasks tasks on all processors: from the last class on, and
// within a class from the last one on.
func fullHouse() []impl.Task {
	var tasks []impl.Task
	for i := range 4 {
		tasks = append(tasks, onCpu(i, fairNo(10+i, 99-i)))
	}
	for i := range 4 {
		tasks = append(tasks, onCpu(i, fixedNo(20+i, 1+i, 9-i)))
	}
	for i := range 4 {
		tasks = append(tasks, onCpu(i, dueNo(30+i, 1+i, 40-i)))
	}
	return tasks
}

func TestAsManyTasksAndLocksAsThereMayBe(t *testing.T) {
	full := fullHouse()
	for cpu := range 4 {
		wantPick(t, full, freeLocks(5), cpu, 30+cpu, 30+cpu)
	}
	wantBest(t, full, numbersOf(full), 33)
	wantBest(t, full, numbersOf(full)[:8], 23)
	wantBest(t, full, numbersOf(full)[:4], 13)
	locks := []impl.Lock{lockOf(10, 30, 31), lockOf(11, 32), lockOf(12, 11, 20), lockOf(13, 12), lockOf(33, 13)}
	for cpu, executor := range []int{10, 10, 33, 33} {
		wantPick(t, full, locks, cpu, 30+cpu, executor)
	}
	wantPickingByWord(t, full, locks, numbersOf(full))
	for _, long := range [][]impl.Task{append(fullHouse(), fairNo(999, 1)), append(full, dueNo(34, 1, 1), dueNo(35, 1, 1))} {
		wantNobody(t, long, nil, numbersOf(long))
		wantBest(t, long, numbersOf(long), 0)
	}
	wantNobody(t, full, freeLocks(6), numbersOf(full))
	wantNobody(t, full, append(locks, lockOf(0)), numbersOf(full))
	wantNobody(t, make([]impl.Task, 20000), nil, []int{0, 1})
}

func TestPickingFromTasksThatAreWrong(t *testing.T) {
	lists := wrongTaskLists()
	// lists in which all could have a turn, but for one that is wrong
	for at, task := range hikers() {
		for _, wrong := range wrongTasks(task.No) {
			lists = append(lists, with(hikers(), wrong))
		}
		double := hikers()
		double[at].No = double[(at+1)%6].No
		swapped := hikers()
		swapped[at], swapped[(at+1)%6] = swapped[(at+1)%6], swapped[at]
		lists = append(lists, double, swapped)
		for _, no := range noNos() {
			odd := hikers()
			odd[at].No = no
			lists = append(lists, odd)
		}
	}
	for _, tasks := range lists {
		if tasksOkByWord(tasks) {
			t.Errorf("%+v is a right one", tasks)
		}
		nos := numbersOf(tasks[:min(len(tasks), 13)])
		for _, locks := range [][]impl.Lock{nil, freeLocks(5), trail(5), {lockOf(10)}} {
			wantNobody(t, tasks, locks, nos)
		}
		wantBest(t, tasks, nos, 0)
		wantBest(t, tasks, []int{10, 20, 30, 40, 50, 60}, 0)
		wantBest(t, tasks, nil, 0)
	}
}

func TestPickingWithLocksThatAreWrong(t *testing.T) {
	for _, locks := range wrongLocks() {
		wantNobody(t, hikers(), locks, []int{10, 20, 30, 40, 50, 60, 500})
	}
}

// Wrong locks hold back those too who neither wait nor own.
func TestLocksThatAreWrongHoldBackAll(t *testing.T) {
	for _, locks := range wrongLocks() {
		wantNobody(t, []impl.Task{fairNo(3, 1), onCpu(2, dueNo(4, 1, 17))}, locks, []int{3, 4})
	}
}

// shapes are one task in each state that a turn may hang on.
func shapes(no int) []impl.Task {
	return []impl.Task{dueNo(no, 1, 17), dueNo(no, 0, 16), fixedNo(no, 4, 9), fairNo(no, 30), asleep(fairNo(no, 29)), onCpu(1, dueNo(no, 1, 9))}
}

func TestPickingAmongThreeWithTwoLocks(t *testing.T) {
	var locks [][]impl.Lock
	for _, a := range smallLocks() {
		for _, b := range smallLocks() {
			if list := []impl.Lock{a, b}; locksOkByWord(list) && len(a.Waits) >= len(b.Waits) {
				locks = append(locks, list)
			}
		}
	}
	if len(locks) < 50 {
		t.Error("too few to tell", len(locks))
	}
	for _, a := range shapes(1) {
		for _, b := range shapes(2) {
			for _, c := range shapes(3) {
				for _, list := range locks {
					wantPickingByWord(t, []impl.Task{a, b, c}, list, []int{0, 1, 2, 3, 4})
				}
			}
		}
	}
}

// tasks are numbered from 1 on, few of them wrong; of some a number is left out.
func (n *numbers) tasks() []impl.Task {
	var list []impl.Task
	for no := 1; no <= 13 && len(list) < 12; no++ {
		if n.below(6) == 0 {
			continue
		}
		task := []impl.Task{dueNo(no, n.below(3), n.below(4)), fixedNo(no, 1+n.below(3), n.below(3)), fairNo(no, n.below(5))}[n.below(3)]
		task.Cpu, task.Idle = n.oneOf(0, 0, 1, 3), n.below(3) == 0
		if n.below(4) == 0 {
			task.State = 2
		}
		list = append(list, task)
	}
	list = list[:n.below(len(list)+1)]
	if len(list) > 0 && n.below(10) == 0 {
		list[n.below(len(list))] = n.task()
	}
	return list
}

func TestManyPicksByWord(t *testing.T) {
	var n numbers
	lent, own, none, wrong := 0, 0, 0, 0
	for range 8000 {
		tasks, locks := n.tasks(), n.locks()
		wantPickingByWord(t, tasks, locks, []int{n.below(14), n.below(14), n.oneOf(0, 1000, 1001, -1, math.MinInt, math.MaxInt)})
		if !tasksOkByWord(tasks) || !locksOkByWord(locks) {
			wrong++
			continue
		}
		for cpu := range 4 {
			switch context, executor := pickByWord(tasks, locks, cpu); {
			case context == 0:
				none++
			case context == executor:
				own++
			default:
				lent++
			}
		}
	}
	if min(lent, own, none, wrong) < 300 {
		t.Errorf("too few of one kind to tell: %d lent, %d own, %d none, %d wrong", lent, own, none, wrong)
	}
}

// rightful takes from many lists those that are right.
func (n *numbers) rightful() ([]impl.Task, []impl.Lock) {
	for {
		tasks, locks := n.tasks(), n.locks()
		if impl.TasksOk(tasks) && impl.LocksOk(locks) {
			return tasks, locks
		}
	}
}

// Promise 8: nobody who could have a turn is before whom Pick tells.
func TestNobodyWhoCouldHaveATurnIsBeforeWhoIsPicked(t *testing.T) {
	var n numbers
	told, rivals := 0, 0
	for range 5000 {
		tasks, locks := n.rightful()
		for cpu := range 4 {
			context, executor := impl.Pick(tasks, locks, cpu)
			if context != 0 {
				told++
				picked := tasks[impl.TaskAt(tasks, context)]
				if picked.Cpu != cpu || !impl.CanTurn(tasks, locks, context) || executor != impl.Executor(tasks, locks, context) {
					t.Fatalf("Pick(%+v, %v, %d) = %d, %d", tasks, locks, cpu, context, executor)
				}
			} else if executor != 0 {
				t.Fatalf("Pick(%+v, %v, %d) = 0, %d", tasks, locks, cpu, executor)
			}
			for _, other := range tasks {
				if other.Cpu != cpu || other.No == context || !impl.CanTurn(tasks, locks, other.No) {
					continue
				}
				rivals++
				if context == 0 || impl.Before(other, tasks[impl.TaskAt(tasks, context)]) {
					t.Fatalf("Pick(%+v, %v, %d) = %d, and %d is before", tasks, locks, cpu, context, other.No)
				}
			}
		}
	}
	if min(told, rivals) < 1000 {
		t.Errorf("too few to tell: %d picked among %d others", told, rivals)
	}
}

// Who is picked stays so where others that are not picked go to sleep.
func TestWhoIsPickedDoesNotHangOnTheOthers(t *testing.T) {
	var n numbers
	for range 2000 {
		tasks, locks := n.rightful()
		context, executor := impl.Pick(tasks, locks, 0)
		for _, other := range tasks {
			if other.No != context && other.No != executor {
				wantPick(t, with(tasks, asleep(other)), locks, 0, context, executor)
			}
		}
	}
}

func TestPickingKeepsNothing(t *testing.T) {
	locks := []impl.Lock{lockOf(10, 30)}
	for range 3 {
		wantOrder(t, dueNo(7, 1, 16), dueNo(5, 9, 17))
		wantAhead(t, dueNo(7, 1, 16), impl.Task{}, false)
		wantExecutor(t, hikers(), locks, 30, 10)
		wantExecutor(t, hikers(), nil, 30, 30)
		wantAble(t, hikers(), locks, 30, true)
		wantAble(t, with(hikers(), asleep(fairNo(10, 30))), locks, 30, false)
		wantCanTurn(t, hikers(), locks, 30, true)
		wantCanTurn(t, with(hikers(), dueNo(30, 0, 17)), locks, 30, false)
		wantPick(t, hikers(), locks, 0, 30, 10)
		wantPick(t, hikers(), ring(2), 0, 0, 0)
		wantPick(t, hikers(), locks, 1, 0, 0)
		wantBest(t, hikers(), []int{10, 20}, 20)
		wantBest(t, nil, []int{10, 20}, 0)
	}
}
