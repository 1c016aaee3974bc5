package tests

import (
	"math"
	"slices"
	"sync"
	"testing"

	"loop.example/g00185/impl"
)

// wantCount has turns that would count in the room behind the list.
func wantCount(t *testing.T, what string, count func(list []impl.Turn, n int) int, list []impl.Turn, n int, want int, behind impl.Turn) {
	t.Helper()
	given, asItWas := spacious(list, behind, turnOf(0, 77, 78), behind)
	if got := count(given, n); got != want {
		t.Errorf("%s(%v, %d) = %d; want %d", what, list, n, got, want)
	}
	if !asItWas() {
		t.Errorf("%s(%v, %d) wrote into it", what, list, n)
	}
}

func wantUsed(t *testing.T, list []impl.Turn, no int, want int) {
	t.Helper()
	wantCount(t, "UsedBy", impl.UsedBy, list, no, want, turnOf(0, no, no))
}

func wantTook(t *testing.T, list []impl.Turn, no int, want int) {
	t.Helper()
	wantCount(t, "TookBy", impl.TookBy, list, no, want, turnOf(0, no, no))
}

func wantIdleOn(t *testing.T, list []impl.Turn, cpu int, want int) {
	t.Helper()
	wantCount(t, "IdleOn", impl.IdleOn, list, cpu, want, turnOf(cpu, 0, 0))
}

func wantShortOf(t *testing.T, s impl.Sys, no int, want int, wantOk bool) {
	t.Helper()
	given, asItWas := roomySys(s)
	if got, ok := impl.ShortOf(given, no); got != want || ok != wantOk {
		t.Errorf("ShortOf(%+v, %d) = %d, %t; want %d, %t", s, no, got, ok, want, wantOk)
	}
	if !asItWas() {
		t.Errorf("ShortOf(%+v, %d) wrote into it", s, no)
	}
}

func wantShort(t *testing.T, s impl.Sys, no int, want int) {
	t.Helper()
	wantShortOf(t, s, no, want, true)
}

func wantNotShort(t *testing.T, s impl.Sys, no int) {
	t.Helper()
	wantShortOf(t, s, no, 0, false)
}

func wantSpreadOn(t *testing.T, s impl.Sys, cpu int, want int) {
	t.Helper()
	given, asItWas := roomySys(s)
	if got := impl.SpreadOn(given, cpu); got != want {
		t.Errorf("SpreadOn(%+v, %d) = %d; want %d", s, cpu, got, want)
	}
	if !asItWas() {
		t.Errorf("SpreadOn(%+v, %d) wrote into it", s, cpu)
	}
}

// The functions named ByWord are the chapter's words once more.
func usedByWord(list []impl.Turn, no int) int {
	used := slices.DeleteFunc(slices.Clone(list), func(turn impl.Turn) bool { return turn.Context != no || no < 0 })
	return len(used)
}

func tookByWord(list []impl.Turn, no int) int {
	return len(slices.DeleteFunc(slices.Clone(list), func(turn impl.Turn) bool { return turn.Executor != no }))
}

func idleByWord(list []impl.Turn, cpu int) int {
	return len(slices.DeleteFunc(slices.Clone(list), func(turn impl.Turn) bool { return turn.Cpu != cpu || turn.Context != 0 }))
}

func shortByWord(s impl.Sys, no int) (int, bool) {
	task, known := taskByWord(s.Tasks, no)
	if !known || task.Class != 1 || !sysOkByWord(s) {
		return 0, false
	}
	thereAre := task.Due - s.Now
	return task.Left - thereAre, true
}

func spreadOnByWord(s impl.Sys, cpu int) int {
	if !sysOkByWord(s) {
		return 0
	}
	return spreadByWord(slices.DeleteFunc(slices.Clone(s.Tasks), func(task impl.Task) bool { return task.Cpu != cpu || task.Idle }))
}

func wantTraceByWord(t *testing.T, list []impl.Turn, nos []int, cpus []int) {
	t.Helper()
	for _, no := range nos {
		wantUsed(t, list, no, usedByWord(list, no))
		wantTook(t, list, no, tookByWord(list, no))
	}
	for _, cpu := range cpus {
		wantIdleOn(t, list, cpu, idleByWord(list, cpu))
	}
}

func wantSysTraceByWord(t *testing.T, s impl.Sys, nos []int, cpus []int) {
	t.Helper()
	wantTraceByWord(t, s.Trace, nos, cpus)
	for _, no := range nos {
		short, ok := shortByWord(s, no)
		wantShortOf(t, s, no, short, ok)
	}
	for _, cpu := range cpus {
		wantSpreadOn(t, s, cpu, spreadOnByWord(s, cpu))
	}
}

// mixedTrace has turns that are had, lent, and nobody's, on three processors.
func mixedTrace() []impl.Turn {
	return []impl.Turn{
		turnOf(0, 10, 10), turnOf(1, 20, 30), turnOf(2, 0, 0),
		turnOf(0, 10, 40), turnOf(1, 0, 0), turnOf(2, 0, 0),
		turnOf(0, 40, 40), turnOf(1, 30, 30), turnOf(2, 50, 50),
		turnOf(0, 0, 0), turnOf(1, 20, 20), turnOf(2, 0, 0),
		turnOf(0, 10, 40), turnOf(1, 20, 30), turnOf(2, 50, 60),
	}
}

func TestWhoUsedAndTookHowMany(t *testing.T) {
	for _, row := range []struct{ no, used, took int }{
		{10, 3, 1}, {20, 3, 1}, {30, 1, 3}, {40, 1, 3}, {50, 2, 1}, {60, 0, 1}, {0, 5, 5}, {70, 0, 0}, {1, 0, 0}, {1000, 0, 0}, {1001, 0, 0}, {-10, 0, 0},
	} {
		wantUsed(t, mixedTrace(), row.no, row.used)
		wantTook(t, mixedTrace(), row.no, row.took)
	}
	for cpu, want := range []int{1, 1, 3, 0, 0, 0} {
		wantIdleOn(t, mixedTrace(), cpu, want)
	}
}

func TestTracesWithoutTurns(t *testing.T) {
	for _, list := range [][]impl.Turn{nil, {}, mixedTrace()[:0], mixedTrace()[9:9], mixedTrace()[15:]} {
		for _, n := range append(noNos(), rightNos()...) {
			wantUsed(t, list, n, 0)
			wantTook(t, list, n, 0)
			wantIdleOn(t, list, n, 0)
			if impl.UsedBy(list, n) != 0 || impl.TookBy(list, n) != 0 || impl.IdleOn(list, n) != 0 {
				t.Errorf("%d in %v", n, list)
			}
		}
	}
}

// Who lends has used the turn, and who takes it has not.
func TestWhoLentUsedIt(t *testing.T) {
	list := slices.Repeat([]impl.Turn{turnOf(0, 5, 6)}, 7)
	wantUsed(t, list, 5, 7)
	wantTook(t, list, 5, 0)
	wantUsed(t, list, 6, 0)
	wantTook(t, list, 6, 7)
	list = append(list, turnOf(0, 6, 5), turnOf(0, 6, 6), turnOf(0, 5, 5))
	wantUsed(t, list, 5, 8)
	wantTook(t, list, 5, 2)
	wantUsed(t, list, 6, 2)
	wantTook(t, list, 6, 8)
	// whatever is lent, on whatever processor
	for cpu := range 4 {
		for i := range list {
			list[i].Cpu = cpu
		}
		wantUsed(t, list, 5, 8)
		wantTook(t, list, 6, 8)
	}
}

func TestTurnsThatAreNobodys(t *testing.T) {
	for count := range 9 {
		list := append(slices.Repeat([]impl.Turn{turnOf(1, 0, 0)}, count), turnOf(1, 5, 5), turnOf(0, 0, 0), turnOf(1, 7, 5))
		wantUsed(t, list, 0, count+1)
		wantTook(t, list, 0, count+1)
		wantIdleOn(t, list, 1, count)
		wantIdleOn(t, list, 0, 1)
	}
	// such as no system has: each is asked for the one that is named
	wantUsed(t, []impl.Turn{turnOf(0, 0, 5)}, 0, 1)
	wantUsed(t, []impl.Turn{turnOf(0, 5, 0)}, 0, 0)
	wantTook(t, []impl.Turn{turnOf(0, 0, 5)}, 0, 0)
	wantTook(t, []impl.Turn{turnOf(0, 5, 0)}, 0, 1)
	wantIdleOn(t, []impl.Turn{turnOf(0, 0, 5)}, 0, 1)
	wantIdleOn(t, []impl.Turn{turnOf(0, 5, 0)}, 0, 0)
}

// What was used is told of no 0, and of 1 and above; a turn of one below 0 is
// neither somebody's nor nobody's.
func TestTurnsOfNumbersBelowNobody(t *testing.T) {
	for _, no := range []int{-1, -2, -10, -1000, -1 << 32, math.MinInt, math.MinInt + 1} {
		wantUsed(t, mixedTrace(), no, 0)
		wantTook(t, mixedTrace(), no, 0)
		wantIdleOn(t, mixedTrace(), no, 0)
		list := []impl.Turn{turnOf(0, no, no), turnOf(1, no, 5), turnOf(0, 5, no), turnOf(no, 0, 0), turnOf(0, no, 0)}
		wantUsed(t, list, no, 0)
		wantUsed(t, list, 0, 1)
		wantUsed(t, list, 5, 1)
		wantTook(t, list, no, 2)
		wantTook(t, list, 5, 1)
		wantIdleOn(t, list, 0, 0)
		wantIdleOn(t, list, 1, 0)
		wantIdleOn(t, list, no, 1)
	}
}

// A number counts as a whole, not by a part of its bits.
func TestTurnsOfGreatNumbers(t *testing.T) {
	odd := []int{0, 1, 5, 256, 1000, 1001, 1 << 31, 1 << 32, 1<<32 + 5, math.MaxInt - 1, math.MaxInt}
	for _, no := range odd {
		var list []impl.Turn
		for _, other := range append(odd, math.MinInt, -5, -1) {
			list = append(list, turnOf(other, other, other), turnOf(other, 0, other))
		}
		want := 1
		if no == 0 {
			want += len(odd) + 3
		}
		wantUsed(t, list, no, want)
		wantTook(t, list, no, 2)
		wantIdleOn(t, list, no, 1+map[bool]int{true: 1}[no == 0])
	}
}

func TestIdleOnProcessorsThatThereAreNot(t *testing.T) {
	for cpus := 1; cpus <= 4; cpus++ {
		s := called(t, bareSys(cpus), ticksCall(9))
		for cpu := range 6 {
			wantIdleOn(t, s.Trace, cpu, map[bool]int{true: 9}[cpu < cpus])
		}
		for _, cpu := range wrongCpus() {
			wantIdleOn(t, s.Trace, cpu, map[bool]int{true: 9}[cpu < cpus && cpu >= 0])
		}
	}
}

// lengths of lists: all short ones, and some about the greatest of a trace and far
// beyond it, for what is counted need be no trace.
func lengths() []int {
	return append(upTo(150), 399, 400, 401, 402, 511, 512, 513, 1000, 1023, 1024, 1025, 5000, 20000)
}

func TestListsOfEachLength(t *testing.T) {
	for _, length := range lengths() {
		mine := slices.Repeat([]impl.Turn{turnOf(2, 7, 9)}, length)
		wantUsed(t, mine, 7, length)
		wantTook(t, mine, 9, length)
		wantUsed(t, mine, 9, 0)
		wantTook(t, mine, 7, 0)
		wantIdleOn(t, mine, 2, 0)
		nobodys := slices.Repeat([]impl.Turn{turnOf(2, 0, 0)}, length)
		wantUsed(t, nobodys, 0, length)
		wantTook(t, nobodys, 0, length)
		wantIdleOn(t, nobodys, 2, length)
		wantIdleOn(t, nobodys, 0, 0)
	}
}

// One turn in a list counts once wherever it stands; all but one do, too.
func TestOneTurnAmongOthers(t *testing.T) {
	for _, length := range append(upTo(100), 400, 401) {
		for at := range length {
			list := slices.Repeat([]impl.Turn{turnOf(1, 3, 4)}, length)
			list[at] = turnOf(0, 0, 5)
			if impl.UsedBy(list, 0) != 1 || impl.TookBy(list, 5) != 1 || impl.IdleOn(list, 0) != 1 {
				t.Fatalf("one at %d of %d", at, length)
			}
			if impl.UsedBy(list, 3) != length-1 || impl.TookBy(list, 4) != length-1 || impl.IdleOn(list, 1) != 0 {
				t.Fatalf("all but the one at %d of %d", at, length)
			}
		}
	}
}

// What counts up to a place is not what counts behind it: the beginning of a list
// leaves nothing to its end.
func TestTurnsUpToAPlace(t *testing.T) {
	for _, length := range append(upTo(100), 400) {
		list := make([]impl.Turn, length)
		for i := range list {
			list[i] = turnOf(1, 3, 4)
		}
		for i := range list {
			list[i] = turnOf(0, 0, 0)
			if impl.UsedBy(list, 0) != i+1 || impl.TookBy(list, 0) != i+1 || impl.IdleOn(list, 0) != i+1 || impl.UsedBy(list, 3) != length-1-i {
				t.Fatalf("%d of %d", i+1, length)
			}
		}
	}
}

// Two cuts of one list are counted together as the list.
func TestCutsOfAList(t *testing.T) {
	s := called(t, bareSys(2), fairCall(1, 0, 0), dueCall(2, 0, 1, 3), lockCall(1, 0), lockCall(2, 0), fixedCall(3, 1, 4, 2), ticksCall(40), sleepCall(3),
		ticksCall(20))
	for cut := range len(s.Trace) + 1 {
		ahead, behind := s.Trace[:cut], s.Trace[cut:]
		for no := range 4 {
			if impl.UsedBy(ahead, no)+impl.UsedBy(behind, no) != impl.UsedBy(s.Trace, no) || impl.TookBy(ahead, no)+impl.TookBy(behind, no) != impl.TookBy(s.Trace, no) {
				t.Errorf("%d, cut at %d", no, cut)
			}
			if impl.IdleOn(ahead, no)+impl.IdleOn(behind, no) != impl.IdleOn(s.Trace, no) {
				t.Errorf("processor %d, cut at %d", no, cut)
			}
		}
	}
}

// What is counted does not hang on the room behind a list.
func TestListsOfEachRoom(t *testing.T) {
	all := slices.Repeat(mixedTrace(), 20)
	for _, length := range []int{0, 1, 15, 31, 32, 33, 64, 65, 100} {
		for room := length; room <= length+70; room++ {
			list := all[:length:room]
			for _, no := range []int{0, 10, 40} {
				if impl.UsedBy(list, no) != usedByWord(list, no) || impl.TookBy(list, no) != tookByWord(list, no) || impl.IdleOn(list, no/20) != idleByWord(list, no/20) {
					t.Errorf("%d in %d of room for %d", no, length, room)
				}
			}
		}
	}
	if !slices.Equal(all, slices.Repeat(mixedTrace(), 20)) {
		t.Error("written into it")
	}
}

func TestManyTracesByWord(t *testing.T) {
	var n numbers
	for range 6000 {
		list := make([]impl.Turn, n.below(n.oneOf(1, 20, 70, 450)))
		few := 1 + n.below(4)
		for i := range list {
			list[i] = turnOf(n.below(few), n.below(few), n.below(few))
			if n.below(20) == 0 {
				list[i] = turnOf(n.oneOf(0, -1, math.MaxInt), n.oneOf(0, -1, math.MaxInt), n.oneOf(0, -1, math.MinInt))
			}
		}
		wantTraceByWord(t, list, []int{math.MinInt, -1, 0, 1, 2, 3, 4, math.MaxInt}, []int{-1, 0, 1, 2, 3, 4, math.MaxInt})
	}
}

func TestShortOfWhatIsLeft(t *testing.T) {
	for _, now := range []int{0, 1, 40, 50, 99999, 100000} {
		for left := range 11 {
			// Due at Now, ahead of it and behind it
			for _, from := range []int{0, 1, 2, 9, 10, 11, 39, 40, -1, -2, -10, -40, -now, 100040 - now} {
				due := now + from
				if !between(due, 0, 100040) {
					continue
				}
				for cpus := 1; cpus <= 4; cpus++ {
					s := sysOn(cpus, now, fairNo(3, 9), onCpu(cpus-1, dueNo(5, left, due)))
					wantShort(t, s, 5, left-from)
					wantNotShort(t, s, 3)
				}
			}
		}
	}
}

func TestShortOfAtTheEnds(t *testing.T) {
	full := impl.Task{No: 1000, Class: 1, Cpu: 3, State: 1, Q: 40, P: 40, Left: 40}
	wantShort(t, sysOn(4, 100000, full), 1000, 100040)
	wantShort(t, sysOn(4, 0, full), 1000, 40)
	full.Due = 100040
	wantShort(t, sysOn(4, 100000, full), 1000, 0)
	wantShort(t, sysOn(4, 0, full), 1000, -100000)
	full.Left = 0
	wantShort(t, sysOn(4, 100000, full), 1000, -40)
	wantShort(t, sysOn(4, 0, full), 1000, -100040)
	// a limit that is passed by one is refused
	wantNotShort(t, sysOn(4, 100001, full), 1000)
	wantNotShort(t, sysOn(4, -1, full), 1000)
	wantNotShort(t, sysOn(3, 0, full), 1000)
	for _, wrong := range []impl.Task{changed(full, "Left", 41), changed(full, "Left", -1), changed(full, "Due", 100041), changed(full, "Due", -1), changed(full, "Q", 41)} {
		wantNotShort(t, sysOn(4, 0, wrong), 1000)
	}
}

// Whether it sleeps, is Idle, has a lock or waits for one counts for nothing.
func TestShortOfInEachState(t *testing.T) {
	for _, task := range []impl.Task{dueNo(5, 4, 60), asleep(dueNo(5, 4, 60)), idle(dueNo(5, 4, 60)), idle(asleep(dueNo(5, 4, 60)))} {
		for _, locks := range [][]impl.Lock{nil, {lockOf(5)}, {lockOf(5, 6)}, {lockOf(6, 5)}} {
			s := sysOn(1, 50, task, fairNo(6, 9))
			s.Locks = fiveLocks(locks...)
			wantShort(t, s, 5, -6)
			wantNotShort(t, s, 6)
		}
	}
}

func TestShortOfWhoHasNoDeadline(t *testing.T) {
	for _, task := range []impl.Task{fixedNo(5, 4, 9), roundNo(5, 4, 3, 2, 9), fairNo(5, 9)} {
		for _, one := range []impl.Task{task, asleep(task), idle(task), idle(asleep(task))} {
			wantNotShort(t, sysOn(1, 0, one), 5)
			wantNotShort(t, sysOn(2, 8, dueNo(4, 1, 9), onCpu(1, one), dueNo(6, 2, 9)), 5)
		}
	}
}

func TestShortOfNoTask(t *testing.T) {
	for _, s := range rightSystems() {
		for no := -2; no <= 1003; no++ {
			task, known := taskByWord(s.Tasks, no)
			if known && task.Class == 1 {
				wantShort(t, s, no, task.Left+s.Now-task.Due)
			} else {
				wantNotShort(t, s, no)
			}
		}
		for _, no := range noNos() {
			wantNotShort(t, s, no)
		}
	}
	// one that is no more has a ghost, and is not short of anything
	s := called(t, bareSys(1), dueCall(5, 0, 2, 4), exitCall(5))
	wantNotShort(t, s, 5)
	wantShort(t, called(t, s, dueCall(5, 0, 1, 2)), 5, -1)
}

// Of several each is told its own.
func TestShortOfEach(t *testing.T) {
	s := sysOn(2, 50, dueNo(3, 1, 55), onCpu(1, dueNo(4, 2, 52)), fairNo(5, 1), dueNo(6, 0, 50), onCpu(1, dueNo(7, 9, 49)), fixedNo(8, 1, 1))
	for no, want := range map[int]int{3: -4, 4: 0, 6: 0, 7: 10} {
		wantShort(t, s, no, want)
	}
	wantNotShort(t, s, 5)
	wantNotShort(t, s, 8)
}

// Alone it has its turns at once, and then a tick less to spare by each that
// passes; who never has a turn comes short of one more by each.
func TestShortOfTickByTick(t *testing.T) {
	s := called(t, bareSys(1), dueCall(5, 0, 2, 5))
	for _, want := range []int{-3, -3, -3, -2, -1, 0, -3, -3, -2, -1, 0, -3} {
		wantShort(t, s, 5, want)
		s = ticked(t, s)
	}
	s = called(t, bareSys(1), dueCall(5, 0, 3, 6), sleepCall(5))
	for _, want := range []int{-3, -2, -1, 0, 1, 2, 3, 4, 5} {
		wantShort(t, s, 5, want)
		s = ticked(t, s)
	}
	s = ticked(t, called(t, s, wakeCall(5)))
	wantShort(t, s, 5, -3)
}

func TestSpreadOfSome(t *testing.T) {
	for cpus := 1; cpus <= 4; cpus++ {
		cpu := cpus - 1
		for _, row := range []struct {
			vs   []int
			want int
		}{
			{nil, 0}, {[]int{0}, 0}, {[]int{9}, 0}, {[]int{mostV}, 0}, {[]int{9, 9}, 0}, {[]int{9, 10}, 1}, {[]int{10, 9}, 1}, {[]int{0, 48}, 48},
			{[]int{0, 49}, 49}, {[]int{7, 30, 12}, 23}, {[]int{30, 7, 12}, 23}, {[]int{12, 30, 7}, 23}, {[]int{0, mostV}, mostV}, {[]int{mostV, 5, 0, 9}, mostV},
			{[]int{5, 5, 5, 5, 5, 5, 5, 5, 5, 5, 5, 6}, 1}, {[]int{9, 8, 7, 6, 5, 4, 3, 2, 1, 0, 1, 2}, 9},
		} {
			s := sysOn(cpus, 8)
			for i, v := range row.vs {
				s.Tasks = append(s.Tasks, onCpu(cpu, fairNo(1+i, v)))
			}
			if !sysOkByWord(s) {
				t.Fatalf("not right: %+v", s)
			}
			for other := -1; other <= 5; other++ {
				wantSpreadOn(t, s, other, map[bool]int{true: row.want}[other == cpu])
			}
		}
	}
}

// Who is Idle is left out; who sleeps and is not Idle yet is not.
func TestSpreadOfWhoIsIdle(t *testing.T) {
	tasks := []impl.Task{fairNo(3, 100), fairNo(4, 10), fairNo(5, 60), fairNo(6, 1000)}
	for asleepOnes := range 16 {
		for idleOnes := range 16 {
			s := sysOn(1, 8, slices.Clone(tasks)...)
			var vs []int
			for i := range s.Tasks {
				s.Tasks[i].State = 1 + asleepOnes>>i&1
				s.Tasks[i].Idle = idleOnes>>i&1 == 1
				if !s.Tasks[i].Idle {
					vs = append(vs, s.Tasks[i].V)
				}
			}
			want := 0
			if len(vs) > 0 {
				want = slices.Max(vs) - slices.Min(vs)
			}
			wantSpreadOn(t, s, 0, want)
		}
	}
}

// Tasks of the other classes have no V, whatever else they have.
func TestSpreadOfOtherClasses(t *testing.T) {
	others := []impl.Task{dueNo(3, 5, 40), dueNo(4, 0, 0), fixedNo(5, 20, 1000000), roundNo(6, 1, 10, 10, 49)}
	wantSpreadOn(t, sysOn(1, 8, others...), 0, 0)
	wantSpreadOn(t, sysOn(1, 8, append(slices.Clone(others), fairNo(7, 500))...), 0, 0)
	wantSpreadOn(t, sysOn(1, 8, append(slices.Clone(others), fairNo(7, 500), fairNo(8, 530))...), 0, 30)
	wantSpreadOn(t, sysOn(1, 8, append(slices.Clone(others), idle(fairNo(7, 500)), fairNo(8, 530))...), 0, 0)
}

// The floor counts for nothing, nor do nices, nor what is had and waited for.
func TestSpreadIsOfVAlone(t *testing.T) {
	for _, row := range niceRows() {
		for _, floor := range []int{0, 10, 30, 90, mostV} {
			for _, locks := range [][]impl.Lock{nil, {lockOf(5)}, {lockOf(6, 5)}, {lockOf(5, 6)}} {
				s := sysOn(1, 8, niceNo(5, row.nice, 20), niceNo(6, -row.nice, 57))
				s.Floors[0], s.Locks = floor, fiveLocks(locks...)
				wantSpreadOn(t, s, 0, 37)
			}
		}
	}
}

func TestSpreadOnEachProcessor(t *testing.T) {
	s := sysOn(3, 8, fairNo(1, 5), onCpu(1, fairNo(2, 900)), fairNo(3, 17), onCpu(2, fairNo(4, 40)), onCpu(1, fairNo(5, 700)), onCpu(2, idle(fairNo(6, 4000))),
		fairNo(7, 11), onCpu(1, dueNo(8, 1, 9)), onCpu(2, fixedNo(9, 3, 3)))
	for cpu, want := range map[int]int{0: 12, 1: 200, 2: 0} {
		wantSpreadOn(t, s, cpu, want)
	}
	for _, cpu := range append(wrongCpus(), 3, 4, 5) {
		wantSpreadOn(t, s, cpu, 0)
	}
	for _, cpu := range append(noPlaces(4), 0, 1, 2, 3) {
		wantSpreadOn(t, busySys(), cpu, 0)
		wantSpreadOn(t, bareSys(4), cpu, 0)
	}
}

// crowded adds two who share fairly, and one with a deadline, so that both would
// have something to tell of a system that is wrong by another thing.
func crowded(s impl.Sys) impl.Sys {
	return turned(s, func(s *impl.Sys) { s.Tasks = append(s.Tasks, fairNo(996, 5), fairNo(997, 900), partNo(998, 0, 1, 40)) })
}

func TestWrongSystemsAreShortOfNothing(t *testing.T) {
	if short, ok := impl.ShortOf(crowded(busySys()), 998); !ok || short != -9 || impl.SpreadOn(crowded(busySys()), 0) != 895 {
		t.Fatalf("%d, %t, %d", short, ok, impl.SpreadOn(crowded(busySys()), 0))
	}
	for _, wrong := range wrongSystems() {
		for _, s := range []impl.Sys{wrong, crowded(wrong)} {
			if sysOkByWord(s) {
				t.Fatalf("it is right: %+v", s)
			}
			for _, no := range append(numbersOf(s.Tasks), -1, 0, 1, 10, 90, math.MinInt, math.MaxInt) {
				wantNotShort(t, s, no)
			}
			for _, cpu := range []int{-1, 0, 1, 2, 3, 4, math.MinInt, math.MaxInt} {
				wantSpreadOn(t, s, cpu, 0)
			}
		}
	}
}

func TestTracesOfSystemsWithoutAnything(t *testing.T) {
	empty := impl.Sys{Tasks: []impl.Task{}, Locks: []impl.Lock{}, Ghosts: []impl.Ghost{}, Floors: []int{}, Trace: []impl.Turn{}}
	for _, s := range []impl.Sys{{}, empty, {Cpus: 1}, {Cpus: 1, Tasks: []impl.Task{dueNo(5, 1, 9), fairNo(6, 0), fairNo(7, 9)}}} {
		for _, n := range append(noNos(), rightNos()...) {
			wantNotShort(t, s, n)
			wantSpreadOn(t, s, n, 0)
		}
		wantSpreadOn(t, s, 0, 0)
	}
	least := impl.Sys{Cpus: 1, Locks: freeLocks(5), Floors: []int{0}}
	wantSpreadOn(t, least, 0, 0)
	wantNotShort(t, least, 0)
	least.Tasks = []impl.Task{dueNo(5, 1, 9), fairNo(6, 0), fairNo(7, 9)}
	wantSpreadOn(t, least, 0, 9)
	wantShort(t, least, 5, -8)
}

func TestTracesAtTheEndsOfInt(t *testing.T) {
	for _, end := range []int{math.MinInt, math.MinInt + 1, math.MaxInt - 1, math.MaxInt} {
		s := impl.Sys{
			Now: end, Cpus: end, Seq: end, Missed: end,
			Tasks:  []impl.Task{{No: end, Class: 1, Cpu: end, State: end, Q: end, P: end, Left: end, Due: -end}, {No: end, Class: 3, Cpu: end, V: end}, {No: -end, Class: 3, Cpu: end, V: -end}},
			Locks:  []impl.Lock{lockOf(end, end), lockOf(end), lockOf(0), lockOf(1), lockOf(-end)},
			Ghosts: []impl.Ghost{{Cpu: end, S: impl.Share{Q: end, P: end}, Until: end}},
			Floors: []int{end, end},
			Trace:  []impl.Turn{turnOf(end, end, end), turnOf(end, 0, 0), turnOf(0, 0, end)},
		}
		wantSysTraceByWord(t, s, []int{end, -end, 0, 1}, []int{end, -end, 0, 1})
		for _, change := range []func(s *impl.Sys){
			func(s *impl.Sys) { s.Now = end }, func(s *impl.Sys) { s.Cpus = end }, func(s *impl.Sys) { s.Tasks[0].Due = end },
			func(s *impl.Sys) { s.Tasks[0].Left = end }, func(s *impl.Sys) { s.Tasks[2].V = end }, func(s *impl.Sys) { s.Floors[1] = end },
		} {
			wrong := turned(steady(), change)
			wantNotShort(t, wrong, 10)
			wantSpreadOn(t, wrong, 0, 0)
		}
		right := turned(crowded(steady()), func(s *impl.Sys) { s.Trace = append(s.Trace, turnOf(end, end, end)) })
		wantShort(t, right, 998, -9)
		wantSpreadOn(t, right, 0, 895)
		wantNotShort(t, right, end)
		wantSpreadOn(t, right, end, 0)
	}
}

// What stands in the trace of a system does not count for what its tasks want.
func TestShortAndSpreadSayNothingOfTheTrace(t *testing.T) {
	for _, trace := range [][]impl.Turn{nil, traceOf(3, 7), mixedTrace()[1:], make([]impl.Turn, 400)} {
		s := turned(crowded(steady()), func(s *impl.Sys) { s.Trace = trace })
		wantShort(t, s, 998, -9)
		wantSpreadOn(t, s, 0, 895)
	}
}

func TestManySystemsAndTheirTraces(t *testing.T) {
	var n numbers
	short, spare, spread, wrong := 0, 0, 0, 0
	for range 12000 {
		s := n.judgeable()
		wantSysTraceByWord(t, s, append(numbersOf(s.Tasks), -1, 0, 7, 1001), []int{-1, 0, 1, 2, 3, 4})
		if !sysOkByWord(s) {
			wrong++
		}
		for _, task := range s.Tasks {
			if by, ok := shortByWord(s, task.No); ok && by > 0 {
				short++
			} else if ok {
				spare++
			}
		}
		for cpu := range 4 {
			spread += min(1, spreadOnByWord(s, cpu))
		}
	}
	if min(short, spare, spread, wrong) < 1000 {
		t.Errorf("too few to tell: %d short, %d not, %d spread, %d wrong", short, spare, spread, wrong)
	}
}

// onlyOn are the turns of one processor.
func onlyOn(list []impl.Turn, cpu int) []impl.Turn {
	return slices.DeleteFunc(slices.Clone(list), func(turn impl.Turn) bool { return turn.Cpu != cpu })
}

// wantAllAccountedFor adds up who had each turn that a system has given: on each
// processor, and on all of them.
func wantAllAccountedFor(t *testing.T, s impl.Sys) {
	t.Helper()
	idleOnAll := 0
	for cpu := range s.Cpus {
		turns := onlyOn(s.Trace, cpu)
		used, took := 0, 0
		for no := 1; no <= 1000; no++ {
			used += impl.UsedBy(turns, no)
			took += impl.TookBy(turns, no)
		}
		idle := impl.IdleOn(s.Trace, cpu)
		if used+idle != s.Now || took+idle != s.Now || impl.UsedBy(turns, 0) != idle || impl.TookBy(turns, 0) != idle {
			t.Fatalf("on %d %d are used, %d taken, %d idle of %+v", cpu, used, took, idle, s)
		}
		idleOnAll += idle
	}
	if impl.UsedBy(s.Trace, 0) != idleOnAll || len(s.Trace) != s.Now*s.Cpus {
		t.Fatalf("%d idle turns of %+v", idleOnAll, s)
	}
}

// Promise 13: what was used and what was idle is all.
func TestWhatWasUsedAndWhatWasIdleIsAll(t *testing.T) {
	var n numbers
	lent, idle := 0, 0
	for run := range 240 {
		s, _ := impl.SysNew(1 + run%4)
		for range 150 {
			next, code := impl.SysCall(s, n.pressing(s))
			if code != 0 {
				continue
			}
			s = next
			wantNobodyShort(t, s)
		}
		wantAllAccountedFor(t, s)
		nos := []int{-1, 0, 1001}
		for _, turn := range s.Trace {
			if !slices.Contains(nos, turn.Context) {
				nos = append(nos, turn.Context)
			}
			if turn.Context != turn.Executor {
				lent++
			}
		}
		wantSysTraceByWord(t, s, append(nos, numbersOf(s.Tasks)...), []int{-1, 0, 1, 2, 3, 4})
		idle += impl.UsedBy(s.Trace, 0)
	}
	if min(lent, idle) < 1000 {
		t.Errorf("too few to tell: %d lent, %d idle", lent, idle)
	}
}

// wantNobodyShort is of a system that was new once: who could run all along has
// the time for what it wants, and who shares fairly is within Scale.
func wantNobodyShort(t *testing.T, s impl.Sys) {
	t.Helper()
	for _, task := range s.Tasks {
		short, ok := impl.ShortOf(s, task.No)
		if ok != (task.Class == 1) || short > 0 && !task.Idle {
			t.Fatalf("%+v is short of %d in %+v", task, short, s)
		}
	}
	for cpu := range s.Cpus {
		if spread := impl.SpreadOn(s, cpu); !between(spread, 0, 48) {
			t.Fatalf("spread by %d on %d in %+v", spread, cpu, s)
		}
	}
}

// stay is the time, from its first period on, in which a task with a part could
// run all along.
type stay struct{ no, q, p, from, until int }

// wantJustItsPart looks at any row of whole periods; it tells how many there are.
func wantJustItsPart(t *testing.T, s impl.Sys, over stay) int {
	t.Helper()
	periods := (over.until - over.from) / over.p
	for first := range periods {
		for count := 1; first+count <= periods; count++ {
			from := over.from + first*over.p
			row := s.Trace[from*s.Cpus : (from+count*over.p)*s.Cpus]
			if used := impl.UsedBy(row, over.no); used != count*over.q {
				t.Fatalf("%d turns in %d periods from %d on of %+v in %+v", used, count, from, over, s)
			}
		}
	}
	return periods
}

// All of the parts that fit, each from another time on, with everything else that
// wants to run beside them.
func TestPartsAreJustThatPart(t *testing.T) {
	for _, p := range parts() {
		if !p.fit {
			continue
		}
		for cpus := 1; cpus <= 4; cpus++ {
			s := called(t, bareSys(cpus), fixedCall(100, cpus-1, 20, 0), fairCall(101, cpus-1, -4), fixedCall(102, cpus-1, 3, 2))
			var stays []stay
			for i, share := range p.list {
				stays = append(stays, stay{10 + i, share.Q, share.P, s.Now, 400 / cpus})
				s = called(t, s, dueCall(10+i, cpus-1, share.Q, share.P), ticksCall(1+i%3))
			}
			s, _ = impl.SysTicks(s, 400)
			for _, one := range stays {
				if wantJustItsPart(t, s, one) == 0 {
					t.Errorf("no whole period of %+v", one)
				}
			}
			wantAllAccountedFor(t, s)
		}
	}
}

// Each part there is, alone with others that never stop.
func TestEachPartIsJustThatPart(t *testing.T) {
	for _, share := range rightShares() {
		if share.P > 12 && share.P < 39 {
			continue
		}
		s := called(t, bareSys(1), dueCall(5, 0, share.Q, share.P), fixedCall(6, 0, 20, 0), fairCall(7, 0, 0))
		s, _ = impl.SysTicks(s, 3*share.P)
		if got := wantJustItsPart(t, s, stay{5, share.Q, share.P, 0, s.Now}); got != 3 {
			t.Errorf("%d periods of %+v", got, share)
		}
		if impl.UsedBy(s.Trace, 6) != 3*(share.P-share.Q) || impl.UsedBy(s.Trace, 7) != 0 || impl.IdleOn(s.Trace, 0) != 0 {
			t.Errorf("the others of %+v in %v", share, s.Trace)
		}
	}
}

// A turn that is lent is a turn of whoever lends it: the part stays what it is.
func TestPartsThatAreLentAreJustThatPart(t *testing.T) {
	s := called(t, bareSys(1), fairCall(3, 0, 4), lockCall(3, 0), dueCall(5, 0, 2, 7), lockCall(5, 0), dueCall(6, 0, 1, 3), fixedCall(7, 0, 9, 0))
	s, _ = impl.SysTicks(s, 210)
	wantJustItsPart(t, s, stay{5, 2, 7, 0, 210})
	wantJustItsPart(t, s, stay{6, 1, 3, 0, 210})
	for no, row := range map[int][2]int{3: {0, 60}, 5: {60, 0}, 6: {70, 70}, 7: {80, 80}} {
		wantUsed(t, s.Trace, no, row[0])
		wantTook(t, s.Trace, no, row[1])
	}
}

// staysBehindTick goes on with who could run all along, ends the stay of who could
// not, and begins that of who is new.
func staysBehindTick(s impl.Sys, open map[int]stay) []stay {
	var ended []stay
	for _, task := range s.Tasks {
		one, known := open[task.No]
		switch {
		case task.Class == 1 && !task.Idle && known:
			one.until = s.Now
			open[task.No] = one
		case known:
			ended = append(ended, one)
			delete(open, task.No)
		}
	}
	return ended
}

// Promise 13: a part of the time is just that part of each period, whoever else
// sleeps, wakes, waits, comes and goes.
func TestAPartIsJustThatPartOfEachPeriod(t *testing.T) {
	var n numbers
	periods, lent := 0, 0
	for run := range 160 {
		s, _ := impl.SysNew(1 + run%4)
		open := map[int]stay{}
		var stays []stay
		for s.Now < 400/s.Cpus {
			for range n.below(3) {
				c := n.pressing(s)
				_, watched := open[c.No]
				if c.Kind == impl.CaTicks || watched && (c.Kind == impl.CaSleep || c.Kind == impl.CaExit) {
					continue
				}
				next, code := impl.SysCall(s, c)
				if code != 0 {
					continue
				}
				if s = next; c.Kind == impl.CaDue {
					open[c.No] = stay{c.No, c.A, c.B, s.Now, s.Now}
				}
			}
			s = ticked(t, s)
			stays = append(stays, staysBehindTick(s, open)...)
		}
		for _, one := range open {
			stays = append(stays, one)
		}
		for _, one := range stays {
			periods += wantJustItsPart(t, s, one)
			row := s.Trace[one.from*s.Cpus : one.until*s.Cpus]
			lent += len(slices.DeleteFunc(slices.Clone(row), func(turn impl.Turn) bool { return turn.Context != one.no || turn.Executor == one.no }))
		}
	}
	if periods < 4000 || lent < 1000 {
		t.Errorf("too few to tell: %d periods, %d turns lent", periods, lent)
	}
}

// sharers is a system in which tasks of these nices share one processor alone.
func sharers(t *testing.T, cpus int, cpu int, nices []int) impl.Sys {
	t.Helper()
	s := bareSys(cpus)
	for i, nice := range nices {
		s = called(t, s, fairCall(1+i, cpu, nice))
	}
	return s
}

// wantTurnsByWeight holds steps times turns of each two against each other, behind
// each tick; what spreads at the end is just that.
func wantTurnsByWeight(t *testing.T, s impl.Sys, cpu int, nices []int) {
	t.Helper()
	least, most := 0, 0
	for end := s.Cpus; end <= len(s.Trace); end += s.Cpus {
		least, most = math.MaxInt, 0
		for i, nice := range nices {
			had := impl.UsedBy(s.Trace[:end], 1+i) * impl.StepOf(nice)
			least, most = min(least, had), max(most, had)
		}
		if most-least > 48 {
			t.Fatalf("behind %d turns from %d to %d of %v in %v", end, least, most, nices, s.Trace)
		}
	}
	if spread := impl.SpreadOn(s, cpu); spread != most-least {
		t.Fatalf("spread by %d, not %d, of %v", spread, most-least, nices)
	}
	if idle := impl.IdleOn(s.Trace, cpu); idle != 0 {
		t.Fatalf("%d idle of %v", idle, nices)
	}
}

// Promise 13: fair turns are by weight, within Scale.
func TestFairTurnsOfATraceAreByWeight(t *testing.T) {
	for one := -4; one <= 4; one++ {
		wantTurnsByWeight(t, called(t, sharers(t, 1, 0, []int{one}), ticksCall(50)), 0, []int{one})
		for two := -4; two <= 4; two++ {
			nices := []int{one, two}
			s, _ := impl.SysTicks(sharers(t, 1, 0, nices), 400)
			wantTurnsByWeight(t, s, 0, nices)
			for three := -4; three <= 4; three++ {
				nices = []int{one, two, three}
				s = called(t, sharers(t, 1, 0, nices), ticksCall(50))
				wantTurnsByWeight(t, s, 0, nices)
			}
		}
	}
}

func TestFairTurnsOfMoreAreByWeight(t *testing.T) {
	var n numbers
	for run := range 60 {
		cpus := 1 + run%4
		cpu, nices := n.below(cpus), n.nices(2+n.below(11))
		s, _ := impl.SysTicks(sharers(t, cpus, cpu, nices), 400)
		if s.Now != 400/cpus {
			t.Fatalf("%d ticks", s.Now)
		}
		wantTurnsByWeight(t, s, cpu, nices)
		wantAllAccountedFor(t, s)
	}
}

// Those that wait lend their turns, and have had them all the same.
func TestFairTurnsThatAreLentAreByWeight(t *testing.T) {
	var n numbers
	lent := 0
	for range 40 {
		nices := n.nices(2 + n.below(6))
		s := sharers(t, 1, 0, nices)
		for s.Now < 400 {
			no, i := 1+n.below(len(nices)), n.below(5)
			s, _ = impl.SysRun(s, []impl.Call{lockCall(no, i)})
			if n.below(3) == 0 {
				s, _ = impl.SysRun(s, []impl.Call{unlockCall(s.Locks[i].Owner, i)})
			}
			s = called(t, s, ticksCall(1+n.below(min(4, 400-s.Now))))
		}
		wantTurnsByWeight(t, s, 0, nices)
		for no := range nices {
			lent += max(0, impl.TookBy(s.Trace, 1+no)-impl.UsedBy(s.Trace, 1+no))
		}
	}
	if lent < 500 {
		t.Errorf("too few to tell: %d lent", lent)
	}
}

// In a whole number of rounds of all weights each has just its weight in turns.
func TestTurnsOfAWholeRoundAreTheWeights(t *testing.T) {
	for _, nices := range [][]int{{0}, {4, 4}, {4, 0}, {-4, 4}, {3, 1, -2}, {-1, 0, 1}, {2, 2, -3}, {4, 3, 2, 1, 0, -1, -2, -3, -4}} {
		_, sum, _ := impl.PartOf(nices[0], nices[1:])
		for rounds := 1; rounds*sum <= 400; rounds++ {
			s, _ := impl.SysTicks(sharers(t, 1, 0, nices), rounds*sum)
			for i, nice := range nices {
				wantUsed(t, s.Trace, 1+i, rounds*impl.WeightOf(nice))
				wantTook(t, s.Trace, 1+i, rounds*impl.WeightOf(nice))
			}
			wantSpreadOn(t, s, 0, 0)
		}
	}
}

// However they are asked, and how often: they tell the same.
func TestTracesTellTheSame(t *testing.T) {
	s := crowded(steady())
	list := slices.Repeat(mixedTrace(), 9)
	var all sync.WaitGroup
	for range 8 {
		all.Go(func() {
			for range 100 {
				short, ok := impl.ShortOf(s, 998)
				if impl.UsedBy(list, 10) != 27 || impl.TookBy(list, 40) != 27 || impl.IdleOn(list, 2) != 27 || impl.SpreadOn(s, 0) != 895 || short != -9 || !ok {
					t.Errorf("another answer of %+v or %v", s, list)
				}
			}
		})
	}
	all.Wait()
}

func TestTracesOfListsThatShareMemory(t *testing.T) {
	room := []int{10, 20, 30, 40, 50, 60}
	s := impl.Sys{Cpus: 1, Tasks: []impl.Task{fairNo(10, 10), fixedNo(20, 4, 9), dueNo(30, 1, 17), fairNo(40, 58), fixedNo(50, 5, 8), dueNo(60, 2, 40)},
		Locks: freeLocks(5), Floors: room[:1]}
	s.Locks[0] = impl.Lock{Owner: 10, Waits: room[1:3]}
	s.Locks[1] = impl.Lock{Owner: 20, Waits: room[3:6]}
	short, ok := impl.ShortOf(s, 60)
	if short != -38 || !ok || impl.SpreadOn(s, 0) != 48 || !slices.Equal(room, []int{10, 20, 30, 40, 50, 60}) {
		t.Errorf("%d, %t, %d of %+v", short, ok, impl.SpreadOn(s, 0), s)
	}
	// the trace of a system is looked at where it stands
	s.Trace = mixedTrace()
	one, two := s.Trace[:9], s.Trace[6:]
	if impl.UsedBy(one, 40)+impl.UsedBy(two, 40) != 2 || impl.IdleOn(one, 2)+impl.IdleOn(two, 2) != 3 || !slices.Equal(s.Trace, mixedTrace()) {
		t.Errorf("%v", s.Trace)
	}
}
