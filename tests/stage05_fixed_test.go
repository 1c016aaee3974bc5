package tests

import (
	"math"
	"slices"
	"testing"

	"loop.example/g00185/impl"
)

// fixedWith has numbers in every other field too, so that one that is lost shows.
func fixedWith(prio int, round int, left int, seq int) impl.Task {
	return impl.Task{No: 700, Class: 2, Cpu: 3, State: 2, Idle: true, Prio: prio, Round: round, Left: left, Seq: seq}
}

func rightSeqs() []int { return []int{0, 1, 2, 9, 10, 500000, 999999, 1000000} }

func wrongSeqs() []int {
	return []int{-1, -2, -10, -1000000, 1000001, 1000002, 1 << 32, 1<<32 + 5, math.MinInt, math.MinInt + 1,
		math.MaxInt - 1, math.MaxInt}
}

// tasksThatAreNotFixed are wrong ones of every class, and right ones of the others.
func tasksThatAreNotFixed() []impl.Task {
	list := []impl.Task{dueTask(), fairTask(), {Idle: true}}
	for _, no := range []int{5, 0, -1, 1001, math.MinInt, math.MaxInt} {
		list = append(list, wrongTasks(no)...)
	}
	for _, t := range []impl.Task{dueTask(), dueWith(1, 1, 1, 0), dueWith(1, 1, 0, 0), fairTask()} {
		list = append(list, changed(t, "State", 1), changed(t, "State", 2), changed(t, "No", 1), changed(t, "No", 1000))
	}
	for _, t := range []impl.Task{fixedTask(), fixedWith(20, 10, 1, 0), fixedWith(1, 1, 1, 1000000), fixedWith(7, 0, 0, 3)} {
		list = append(list, changed(t, "Left", t.Round+1), changed(t, "Left", -1), changed(t, "Prio", 0), changed(t, "Prio", 21),
			changed(t, "Round", 11), changed(t, "Round", -1), changed(t, "Seq", -1), changed(t, "Seq", 1000001),
			changed(t, "State", 0), changed(t, "State", 3), changed(t, "Cpu", 4), changed(t, "No", 0), changed(t, "No", 1001))
		if t.Round > 0 {
			list = append(list, changed(t, "Left", 0), changed(t, "Round", 0), changed(t, "Round", t.Left-1))
		}
		for _, f := range taskFields() {
			list = append(list, changed(t, f.name, math.MinInt), changed(t, f.name, math.MaxInt))
			if !slices.Contains(namedBy(2), f.name) {
				list = append(list, changed(t, f.name, 1), changed(t, f.name, -1))
			}
		}
		for _, class := range []int{0, 1, 3, 4, -1, 258, 1<<32 + 2} {
			list = append(list, changed(t, "Class", class))
		}
	}
	return list
}

func wantFixedBefore(t *testing.T, a impl.Task, b impl.Task, want bool) {
	t.Helper()
	if got := impl.FixedBefore(a, b); got != want {
		t.Errorf("FixedBefore(%+v, %+v) = %t", a, b, got)
	}
}

func wantFixedSpend(t *testing.T, task impl.Task, seq int, want impl.Task, wantTurned bool) {
	t.Helper()
	got, turned := impl.FixedSpend(task, seq)
	if got != want || turned != wantTurned {
		t.Errorf("FixedSpend(%+v, %d) = %+v, %t; want %+v, %t", task, seq, got, turned, want, wantTurned)
	}
}

func wantNotSpent(t *testing.T, task impl.Task, seq int) {
	t.Helper()
	wantFixedSpend(t, task, seq, task, false)
}

func TestTheTasksThatAreNotFixedAreNone(t *testing.T) {
	for _, task := range tasksThatAreNotFixed() {
		if task.Class == 2 && rightByWord(task) {
			t.Errorf("%+v is a right one", task)
		}
	}
}

func TestFixedBeforeOfFew(t *testing.T) {
	a := impl.Task{No: 5, Class: 2, State: 1, Prio: 4, Round: 2, Left: 1, Seq: 8}
	cases := []struct {
		prio, seq, no int
		want          bool
	}{
		{3, 8, 5, true}, {4, 8, 5, false}, {5, 8, 5, false},
		{4, 9, 5, true}, {4, 7, 5, false}, {4, 8, 6, true}, {4, 8, 4, false},
		// the Prio counts ahead of the Seq, and that ahead of the No
		{3, 0, 1, true}, {3, 1000000, 1000, true}, {5, 1000000, 1000, false}, {5, 0, 1, false},
		{4, 9, 1, true}, {4, 9, 1000, true}, {4, 7, 1000, false}, {4, 7, 1, false},
		{1, 7, 4, true}, {20, 9, 6, false},
	}
	for _, c := range cases {
		b := impl.Task{No: c.no, Class: 2, State: 1, Prio: c.prio, Seq: c.seq}
		wantFixedBefore(t, a, b, c.want)
		alike := c.prio == a.Prio && c.seq == a.Seq && c.no == a.No
		wantFixedBefore(t, b, a, !c.want && !alike)
	}
}

// fixedBeforeByWord is the chapter's word once more, of tasks that may be wrong.
func fixedBeforeByWord(a impl.Task, b impl.Task) bool {
	if a.Class != 2 || b.Class != 2 || !rightByWord(a) || !rightByWord(b) {
		return false
	}
	if a.Prio != b.Prio {
		return a.Prio > b.Prio
	}
	if a.Seq != b.Seq {
		return a.Seq < b.Seq
	}
	return a.No < b.No
}

func TestFixedBeforeOfEachTwoPrios(t *testing.T) {
	for a := 1; a <= 20; a++ {
		for b := 1; b <= 20; b++ {
			for _, seqs := range [][2]int{{3, 3}, {0, 1000000}, {1000000, 0}} {
				for _, nos := range [][2]int{{7, 7}, {1, 1000}, {1000, 1}} {
					first, second := fixedWith(a, 0, 0, seqs[0]), fixedWith(b, 10, 3, seqs[1])
					first.No, second.No = nos[0], nos[1]
					wantFixedBefore(t, first, second, fixedBeforeByWord(first, second))
					if a != b {
						wantFixedBefore(t, first, second, a > b)
					}
				}
			}
		}
	}
}

func TestFixedBeforeBySeqAndNo(t *testing.T) {
	for _, prio := range []int{1, 2, 10, 19, 20} {
		for _, a := range rightSeqs() {
			for _, b := range rightSeqs() {
				for _, nos := range [][2]int{{1, 1000}, {1000, 1}, {7, 7}, {6, 7}, {7, 6}, {499, 500}, {500, 499}, {999, 1000}, {1000, 999}} {
					first, second := fixedWith(prio, 5, 2, a), fixedWith(prio, 1, 1, b)
					first.No, second.No = nos[0], nos[1]
					want := a < b || a == b && nos[0] < nos[1]
					wantFixedBefore(t, first, second, want)
				}
			}
		}
	}
}

// Prio, Seq and No alone count: all else may be less, alike or greater.
func TestNothingElseTellsWhichFixedOneIsBefore(t *testing.T) {
	least := impl.Task{No: 5, Class: 2, Cpu: 0, State: 1, Prio: 4, Seq: 9}
	greatest := impl.Task{No: 5, Class: 2, Cpu: 3, State: 2, Idle: true, Prio: 4, Round: 10, Left: 10, Seq: 9}
	others := []impl.Task{least, greatest, changed(least, "Cpu", 3), changed(least, "State", 2), changed(greatest, "Left", 1),
		changed(changed(greatest, "Round", 1), "Left", 1)}
	for _, a := range others {
		for _, b := range others {
			wantFixedBefore(t, a, b, false)
			wantFixedBefore(t, changed(a, "Prio", 5), b, true)
			wantFixedBefore(t, changed(a, "Prio", 3), b, false)
			wantFixedBefore(t, changed(a, "Seq", 8), b, true)
			wantFixedBefore(t, changed(a, "Seq", 10), b, false)
			wantFixedBefore(t, changed(a, "No", 4), b, true)
			wantFixedBefore(t, changed(a, "No", 6), b, false)
			wantFixedBefore(t, changed(changed(a, "Seq", 8), "No", 1000), b, true)
			wantFixedBefore(t, changed(changed(a, "Prio", 5), "Seq", 1000000), b, true)
			wantFixedBefore(t, changed(changed(a, "Prio", 3), "Seq", 0), b, false)
		}
	}
}

func TestFixedBeforeOfTheSameTask(t *testing.T) {
	for _, task := range []impl.Task{fixedTask(), fixedWith(1, 0, 0, 0), fixedWith(20, 10, 10, 1000000), fixedWith(20, 1, 1, 0)} {
		wantFixedBefore(t, task, task, false)
	}
	for _, task := range tasksThatAreNotFixed() {
		wantFixedBefore(t, task, task, false)
	}
}

// Of any three, who is before one that is before another is before that one.
func TestFixedBeforeIsAnOrder(t *testing.T) {
	var n numbers
	for range 20000 {
		var three [3]impl.Task
		for i := range three {
			three[i] = fixedWith(7+n.below(2), 5, 1+n.below(5), n.below(2))
			three[i].No = 1 + n.below(2)
		}
		a, b, c := three[0], three[1], three[2]
		if impl.FixedBefore(a, b) && impl.FixedBefore(b, a) {
			t.Fatalf("%+v and %+v are before each other", a, b)
		}
		if impl.FixedBefore(a, b) && impl.FixedBefore(b, c) && !impl.FixedBefore(a, c) {
			t.Fatalf("%+v, %+v, %+v", a, b, c)
		}
		alike := a.Prio == b.Prio && a.Seq == b.Seq && a.No == b.No
		if alike == (impl.FixedBefore(a, b) || impl.FixedBefore(b, a)) {
			t.Fatalf("%+v and %+v", a, b)
		}
	}
}

func TestFixedSpendOfEveryRound(t *testing.T) {
	for round := 1; round <= 10; round++ {
		for left := 1; left <= round; left++ {
			for _, own := range []int{0, 9, 1000000} {
				task := fixedWith(4, round, left, own)
				for _, seq := range rightSeqs() {
					if left > 1 {
						wantFixedSpend(t, task, seq, fixedWith(4, round, left-1, own), false)
						continue
					}
					wantFixedSpend(t, task, seq, fixedWith(4, round, round, seq), true)
				}
			}
		}
	}
}

// The seq is asked for only where the round is over.
func TestFixedSpendWithASeqThatIsNone(t *testing.T) {
	for round := 1; round <= 10; round++ {
		for left := 1; left <= round; left++ {
			task := fixedWith(4, round, left, 9)
			for _, seq := range wrongSeqs() {
				if left > 1 {
					wantFixedSpend(t, task, seq, fixedWith(4, round, left-1, 9), false)
					continue
				}
				wantNotSpent(t, task, seq)
			}
		}
	}
}

func TestFixedSpendAtTheEndsOfSeq(t *testing.T) {
	task := fixedWith(4, 6, 1, 9)
	wantNotSpent(t, task, -1)
	wantFixedSpend(t, task, 0, fixedWith(4, 6, 6, 0), true)
	wantFixedSpend(t, task, 9, fixedWith(4, 6, 6, 9), true)
	// beyond MaxSeq, which is a limit of the system, not of a task
	wantFixedSpend(t, task, 900001, fixedWith(4, 6, 6, 900001), true)
	wantFixedSpend(t, task, 1000000, fixedWith(4, 6, 6, 1000000), true)
	wantNotSpent(t, task, 1000001)
}

func TestFixedSpendOfARoundOfOne(t *testing.T) {
	for prio := 1; prio <= 20; prio++ {
		task := fixedWith(prio, 1, 1, 3)
		wantFixedSpend(t, task, 3, task, true)
		for _, seq := range rightSeqs() {
			wantFixedSpend(t, task, seq, fixedWith(prio, 1, 1, seq), true)
		}
		for _, seq := range wrongSeqs() {
			wantNotSpent(t, task, seq)
		}
	}
}

func TestFixedSpendWithoutARound(t *testing.T) {
	for prio := 1; prio <= 20; prio++ {
		for _, own := range rightSeqs() {
			for _, seq := range append(wrongSeqs(), rightSeqs()...) {
				wantNotSpent(t, fixedWith(prio, 0, 0, own), seq)
			}
		}
	}
}

func TestFixedSpendInEveryState(t *testing.T) {
	for cpu := range 4 {
		for _, state := range []int{1, 2} {
			for _, idle := range []bool{false, true} {
				for _, no := range []int{1, 1000} {
					task := impl.Task{No: no, Class: 2, Cpu: cpu, State: state, Idle: idle, Prio: 4, Round: 6, Left: 2, Seq: 9}
					spent := changed(task, "Left", 1)
					wantFixedSpend(t, task, 77, spent, false)
					wantFixedSpend(t, spent, 77, changed(changed(task, "Left", 6), "Seq", 77), true)
				}
			}
		}
	}
}

// Promise 5: of each Round ticks just the last one, and then it is behind all
// others of its Prio.
func TestOnceARoundATaskGoesBehind(t *testing.T) {
	for round := 1; round <= 10; round++ {
		task, ok := impl.NewFixed(1, 0, 4, round, 0)
		if !ok {
			t.Fatal("no task of round", round)
		}
		seq := 50
		others := []impl.Task{fixedWith(4, 0, 0, 0), fixedWith(4, 3, 2, 25), fixedWith(4, 10, 10, 50)}
		for tick := 1; tick <= 5*round; tick++ {
			var turned bool
			task, turned = impl.FixedSpend(task, seq+1)
			if turned != (tick%round == 0) || !impl.TaskOk(task) {
				t.Fatalf("round %d, tick %d: %t, %+v", round, tick, turned, task)
			}
			if !turned {
				continue
			}
			for _, other := range others {
				wantFixedBefore(t, other, task, true)
				wantFixedBefore(t, task, other, false)
			}
			seq++
			others = append(others, fixedWith(4, 5, 1, seq))
		}
	}
}

func firstFixed(list []impl.Task) int {
	for i, task := range list {
		if !slices.ContainsFunc(list, func(other impl.Task) bool { return impl.FixedBefore(other, task) }) {
			return i
		}
	}
	return -1
}

// Tasks of one priority have their rounds one behind the other, and those of a
// lesser one nothing.
func TestRoundsGoInTurn(t *testing.T) {
	rounds := []int{3, 1, 10, 2}
	var list []impl.Task
	for i, round := range rounds {
		task, _ := impl.NewFixed(9-i, 0, 7, round, i)
		list = append(list, task)
	}
	low, _ := impl.NewFixed(1, 0, 6, 1, 0)
	list = append(list, low)
	seq := 10
	for range 4 {
		for i, round := range rounds {
			for tick := 1; tick <= round; tick++ {
				at := firstFixed(list)
				if at != i {
					t.Fatalf("tick %d of %d is %d's turn: %+v", tick, i, at, list)
				}
				var turned bool
				list[at], turned = impl.FixedSpend(list[at], seq+1)
				if turned != (tick == round) {
					t.Fatalf("tick %d of %d: %t", tick, i, turned)
				}
				if turned {
					seq++
				}
			}
		}
	}
	if list[len(list)-1] != low {
		t.Error(list[len(list)-1])
	}
}

// Without a round it stays first, however much it runs.
func TestWithoutARoundItRunsUntilItStops(t *testing.T) {
	task, _ := impl.NewFixed(5, 0, 7, 0, 1)
	other, _ := impl.NewFixed(6, 0, 7, 2, 1)
	for seq := range 50 {
		wantNotSpent(t, task, seq)
		wantFixedBefore(t, task, other, true)
	}
}

func TestTasksThatAreNotFixedAreNotSpent(t *testing.T) {
	seqs := append(wrongSeqs(), rightSeqs()...)
	for _, task := range tasksThatAreNotFixed() {
		for _, idle := range []bool{false, true} {
			task.Idle = idle
			for _, seq := range seqs {
				wantNotSpent(t, task, seq)
			}
		}
	}
}

func TestFixedBeforeOfTasksThatAreNotFixed(t *testing.T) {
	right := []impl.Task{fixedTask(), fixedWith(1, 0, 0, 1000000), fixedWith(20, 10, 10, 0), changed(fixedWith(20, 1, 1, 0), "No", 1)}
	for _, wrong := range tasksThatAreNotFixed() {
		for _, task := range right {
			wantFixedBefore(t, wrong, task, false)
			wantFixedBefore(t, task, wrong, false)
		}
		for _, other := range tasksThatAreNotFixed() {
			wantFixedBefore(t, wrong, other, false)
		}
	}
}

// fixedSpentByWord is the chapter's word once more, of tasks that may be wrong.
func fixedSpentByWord(task impl.Task, seq int) (impl.Task, bool) {
	switch {
	case task.Class != 2 || !rightByWord(task) || task.Round == 0:
		return task, false
	case task.Left > 1:
		return changed(task, "Left", task.Left-1), false
	case between(seq, 0, 1000000):
		return changed(changed(task, "Left", task.Round), "Seq", seq), true
	}
	return task, false
}

// fixed is a right one of any numbers, or now and then one that may be wrong or
// of another class.
func (n *numbers) fixed() impl.Task {
	if n.below(4) == 0 {
		return n.task()
	}
	task := fixedWith(1+n.below(20), n.below(11), 0, n.oneOf(0, 3, 1000000, n.below(1000000)))
	if task.Round > 0 {
		task.Left = 1 + n.below(task.Round)
	}
	return changed(task, "No", 1+n.below(1000))
}

func TestManyFixedTasksByWord(t *testing.T) {
	var n numbers
	right, turns, befores := 0, 0, 0
	for range 60000 {
		a, b := n.fixed(), n.fixed()
		if n.below(2) == 0 {
			b.Prio = a.Prio
		}
		seq := n.oneOf(-1, 0, 1, 9, 1000000, 1000001, n.below(1000000))
		want, turned := fixedSpentByWord(a, seq)
		wantFixedSpend(t, a, seq, want, turned)
		wantFixedBefore(t, a, b, fixedBeforeByWord(a, b))
		if a.Class == 2 && rightByWord(a) {
			right++
		}
		if turned {
			turns++
		}
		if fixedBeforeByWord(a, b) {
			befores++
		}
	}
	if right < 6000 || right > 54000 || turns < 6000 || befores < 6000 {
		t.Errorf("%d are right, %d turned, %d are before another", right, turns, befores)
	}
}

func TestFixedPrioritiesKeepNothing(t *testing.T) {
	high, low := fixedWith(5, 2, 1, 9), fixedWith(4, 2, 2, 3)
	for range 3 {
		wantFixedBefore(t, high, low, true)
		wantFixedBefore(t, low, high, false)
		wantFixedBefore(t, low, low, false)
		wantFixedSpend(t, high, 77, fixedWith(5, 2, 2, 77), true)
		wantFixedSpend(t, low, 77, fixedWith(4, 2, 1, 3), false)
		wantNotSpent(t, fairTask(), 77)
	}
}
