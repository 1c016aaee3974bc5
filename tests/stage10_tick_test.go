package tests

import (
	"math"
	"runtime"
	"slices"
	"sync"
	"testing"
	"time"

	"loop.example/g00185/impl"
)

// sysOn is a system at a time, with tasks and without anything else.
func sysOn(cpus int, now int, tasks ...impl.Task) impl.Sys {
	s := bareSys(cpus)
	s.Now, s.Tasks = now, tasks
	return s
}

// roundNo is a fixedNo that goes in rounds.
func roundNo(no int, prio int, round int, left int, seq int) impl.Task {
	return impl.Task{No: no, Class: 2, State: 1, Prio: prio, Round: round, Left: left, Seq: seq}
}

func niceNo(no int, nice int, v int) impl.Task {
	return impl.Task{No: no, Class: 3, State: 1, Nice: nice, V: v}
}

func turnOf(cpu int, context int, executor int) impl.Turn {
	return impl.Turn{Cpu: cpu, Context: context, Executor: executor}
}

// wantSysOfItsOwn writes into all of the answer and behind it: neither what was
// handed in nor another list of the answer may turn by that.
func wantSysOfItsOwn(t *testing.T, what string, answer impl.Sys, asItWas func() bool) {
	t.Helper()
	locks := copyLocks(answer.Locks)
	for i := range answer.Tasks {
		answer.Tasks[i] = impl.Task{No: -51}
	}
	for i := range answer.Ghosts {
		answer.Ghosts[i] = impl.Ghost{Cpu: -52}
	}
	for i := range answer.Trace {
		answer.Trace[i] = impl.Turn{Cpu: -53}
	}
	for i := range answer.Floors {
		answer.Floors[i] = -54
	}
	tasks, others := append(answer.Tasks, impl.Task{No: -61}), append(answer.Ghosts, impl.Ghost{Cpu: -62})
	trace, floors := append(answer.Trace, impl.Turn{Cpu: -63}), append(answer.Floors, -64)
	if !sameLocks(locks, answer.Locks) || !asItWas() {
		t.Fatalf("%s shares memory: %v %v %v %v", what, tasks, others, trace, floors)
	}
	wantOwnMemory(t, what, answer.Locks, asItWas)
	if slices.ContainsFunc(answer.Floors, func(floor int) bool { return floor != -54 }) || floors[len(floors)-1] != -64 {
		t.Fatalf("%s: a list of its locks shares memory with its floors: %v", what, floors)
	}
}

func wantTicking(t *testing.T, s impl.Sys, want impl.Sys, wantOk bool) {
	t.Helper()
	given, asItWas := roomySys(s)
	got, ok := impl.SysTick(given)
	if ok != wantOk || !sameSys(got, want) {
		t.Errorf("SysTick(%+v)\n= %+v, %t;\nwant %+v, %t", s, got, ok, want, wantOk)
	}
	wantSysOfItsOwn(t, "SysTick", got, asItWas)
}

func wantTick(t *testing.T, s impl.Sys, want impl.Sys) {
	t.Helper()
	wantTicking(t, s, want, true)
}

func wantNotTicked(t *testing.T, s impl.Sys) {
	t.Helper()
	wantTicking(t, s, s, false)
}

func wantNothingTicked(t *testing.T, s impl.Sys) {
	t.Helper()
	wantTicking(t, s, impl.Sys{}, false)
}

func wantTicks(t *testing.T, s impl.Sys, n int, want impl.Sys, times int) {
	t.Helper()
	given, asItWas := roomySys(s)
	got, did := impl.SysTicks(given, n)
	if did != times || !sameSys(got, want) {
		t.Errorf("SysTicks(%+v, %d)\n= %+v, %d;\nwant %+v, %d", s, n, got, did, want, times)
	}
	wantSysOfItsOwn(t, "SysTicks", got, asItWas)
}

func wantLast(t *testing.T, s impl.Sys, want ...impl.Turn) {
	t.Helper()
	given, asItWas := roomySys(s)
	got := impl.LastTurns(given)
	if !slices.Equal(got, want) {
		t.Errorf("LastTurns(%+v) = %v; want %v", s, got, want)
	}
	for i := range got {
		got[i] = turnOf(-55, -56, -57)
	}
	if got = append(got, turnOf(-58, -59, -60)); !asItWas() {
		t.Errorf("LastTurns(%+v) shares memory with it: %v", s, got)
	}
}

// ticked is what a tick that is not looked at makes of it.
func ticked(t *testing.T, s impl.Sys) impl.Sys {
	t.Helper()
	next, ok := impl.SysTick(s)
	if !ok {
		t.Fatalf("SysTick(%+v) is false", s)
	}
	return next
}

// wantTasks ticks, and looks at the tasks alone.
func wantTasks(t *testing.T, s impl.Sys, want ...impl.Task) {
	t.Helper()
	if got := ticked(t, s).Tasks; !slices.Equal(got, want) {
		t.Errorf("SysTick(%+v)\nleaves %+v;\nwant   %+v", s, got, want)
	}
}

// wantTurns ticks, and looks at the turns alone.
func wantTurns(t *testing.T, s impl.Sys, want ...impl.Turn) {
	t.Helper()
	if got := ticked(t, s).Trace; !slices.Equal(got, append(slices.Clone(s.Trace), want...)) {
		t.Errorf("SysTick(%+v) has the turns %v; want %v at the end", s, got, want)
	}
}

// untilTurnsByWord are the first four steps by the chapter's words.
func untilTurnsByWord(s impl.Sys) impl.Sys {
	next := copySys(s)
	next.Ghosts = slices.DeleteFunc(next.Ghosts, func(g impl.Ghost) bool { return g.Until <= s.Now })
	for at, task := range next.Tasks {
		if task.Class == 1 && !task.Idle && task.Due <= s.Now {
			if task.Left > 0 && next.Missed < 100000 {
				next.Missed++
			}
			next.Tasks[at] = renewedByWord(task, s.Now)
		}
	}
	for at, task := range slices.Clone(next.Tasks) {
		able := ableByWord(next.Tasks, next.Locks, task.No)
		if able && task.Idle {
			next.Tasks[at] = fairWokenByWord(wokenByWord(task, s.Now), s.Floors[task.Cpu])
		}
		next.Tasks[at].Idle = !able
	}
	for cpu := range next.Floors {
		awake := slices.DeleteFunc(slices.Clone(next.Tasks), func(task impl.Task) bool { return task.Idle || task.Cpu != cpu })
		next.Floors[cpu] = flooredByWord(awake, s.Floors[cpu])
	}
	return next
}

func tickByWord(s impl.Sys) (impl.Sys, bool) {
	if !sysOkByWord(s) {
		return impl.Sys{}, false
	}
	if s.Now == 100000 || s.Seq > 900000 || len(s.Trace)+s.Cpus > 400 {
		return s, false
	}
	next := untilTurnsByWord(s)
	for cpu := range s.Cpus {
		context, executor := pickByWord(next.Tasks, next.Locks, cpu)
		if task, known := taskByWord(next.Tasks, context); known {
			spent, behind := fixedSpentByWord(task, next.Seq+1)
			if behind {
				next.Seq++
			}
			next.Tasks = with(next.Tasks, fairSpentByWord(spentByWord(spent)))
		}
		next.Trace = append(next.Trace, turnOf(cpu, context, executor))
	}
	next.Now++
	return next, true
}

func TestTickOfNewSystems(t *testing.T) {
	for cpus := 1; cpus <= 4; cpus++ {
		want := turned(bareSys(cpus), func(s *impl.Sys) { s.Now = 1 })
		for cpu := range cpus {
			want.Trace = append(want.Trace, turnOf(cpu, 0, 0))
		}
		fresh, _ := impl.SysNew(cpus)
		wantTick(t, fresh, want)
		wantLast(t, want, want.Trace...)
		again := turned(want, func(s *impl.Sys) { s.Now, s.Trace = 2, append(s.Trace, want.Trace...) })
		wantTick(t, want, again)
		wantLast(t, again, want.Trace...)
		wantTicks(t, fresh, 2, again, 2)
	}
}

// One of each class, alone, on the last of all processors.
func TestTickOfOneTask(t *testing.T) {
	for cpus := 1; cpus <= 4; cpus++ {
		for _, row := range []struct{ task, want impl.Task }{
			{dueNo(5, 7, 20), dueNo(5, 6, 20)}, {dueNo(5, 1, 20), dueNo(5, 0, 20)}, {fixedNo(5, 4, 9), fixedNo(5, 4, 9)},
			{roundNo(5, 4, 3, 3, 9), roundNo(5, 4, 3, 2, 9)}, {roundNo(5, 4, 3, 2, 9), roundNo(5, 4, 3, 1, 9)},
			{niceNo(5, 0, 9), niceNo(5, 0, 17)}, {niceNo(5, 4, 9), niceNo(5, 4, 57)}, {niceNo(5, -4, 9), niceNo(5, -4, 11)},
		} {
			s := sysOn(cpus, 3, onCpu(cpus-1, row.task))
			want := sysOn(cpus, 4, onCpu(cpus-1, row.want))
			want.Floors[cpus-1] = row.task.V
			for cpu := range cpus - 1 {
				want.Trace = append(want.Trace, turnOf(cpu, 0, 0))
			}
			want.Trace = append(want.Trace, turnOf(cpus-1, 5, 5))
			wantTick(t, s, want)
		}
	}
}

func TestTickOfABusySystem(t *testing.T) {
	s := busySys()
	want := turned(s, func(s *impl.Sys) {
		s.Now = 8
		s.Tasks[0].Left = 0
		s.Tasks[4].Idle = true
		s.Tasks[5].Left = 1
		s.Tasks[6].Left = 0
		s.Tasks[7].Idle = false
		s.Floors = []int{31, 12, 0}
		s.Trace = append(s.Trace, turnOf(0, 10, 30), turnOf(1, 60, 60), turnOf(2, 70, 70))
	})
	wantTick(t, s, want)
	// what 10 had is used up: 90 lends its turn to 30 over 20, then 20 itself does
	next := turned(want, func(s *impl.Sys) {
		s.Now = 9
		s.Tasks[5].Left, s.Tasks[7].V, s.Tasks[8].Left = 0, 8, 0
		s.Trace = append(s.Trace, turnOf(0, 90, 30), turnOf(1, 60, 60), turnOf(2, 80, 80))
	})
	wantTick(t, want, next)
	last := turned(next, func(s *impl.Sys) {
		s.Now, s.Ghosts = 10, nil
		s.Tasks[3].V, s.Tasks[7].V = 20, 16
		s.Floors[2] = 8
		s.Trace = append(s.Trace, turnOf(0, 20, 30), turnOf(1, 40, 60), turnOf(2, 80, 80))
	})
	wantTick(t, next, last)
	wantTicks(t, s, 3, last, 3)
}

func TestGhostsThatAreNoMore(t *testing.T) {
	for _, now := range []int{0, 1, 7, 50000, 99999} {
		s := sysOn(2, now)
		var still []impl.Ghost
		for i, until := range []int{now + 1, now, now - 1, now + 2, 0, now, 100040, now + 1, 1} {
			ghost := impl.Ghost{Cpu: i % 2, S: impl.Share{Q: 1, P: 5 + i}, Until: max(0, until)}
			s.Ghosts = append(s.Ghosts, ghost)
			if ghost.Until > now {
				still = append(still, ghost)
			}
		}
		want := turned(s, func(s *impl.Sys) {
			s.Now, s.Ghosts, s.Trace = now+1, still, []impl.Turn{turnOf(0, 0, 0), turnOf(1, 0, 0)}
		})
		wantTick(t, s, want)
		for _, g := range s.Ghosts {
			alone := turned(s, func(s *impl.Sys) { s.Ghosts = []impl.Ghost{g} })
			if got := len(ticked(t, alone).Ghosts); got != map[bool]int{true: 1}[g.Until > now] {
				t.Errorf("at %d of %+v %d are left", now, g, got)
			}
		}
	}
	// as many as there may be, none of them and all of them to stay
	full := turned(fullSys(), func(s *impl.Sys) { s.Now, s.Seq, s.Trace = 99999, 0, nil })
	if got := ticked(t, full).Ghosts; len(got) != 4 || got[0] != full.Ghosts[0] || got[3] != full.Ghosts[9] {
		t.Errorf("still there: %v", got)
	}
	for i := range full.Ghosts {
		full.Ghosts[i].Until = 100000
	}
	if got := ticked(t, full).Ghosts; !slices.Equal(got, full.Ghosts) {
		t.Errorf("still there: %v", got)
	}
}

// A task that has just gone to sleep is not Idle yet: it is renewed, and has no
// turn.
func TestDuesAreRenewed(t *testing.T) {
	for _, now := range []int{0, 1, 50, 99999} {
		for _, row := range []struct{ left, due, wantLeft, wantDue, missed int }{
			{0, now, 10, now + 40, 0}, {1, now, 10, now + 40, 1}, {10, now, 10, now + 40, 1},
			{0, now + 1, 0, now + 1, 0}, {1, now + 1, 1, now + 1, 0}, {10, now + 1, 10, now + 1, 0},
			{0, now + 2, 0, now + 2, 0}, {5, now + 40, 5, now + 40, 0}, {3, 100040, 3, 100040, 0},
			{0, max(0, now-1), 10, max(0, now-1) + 40, 0}, {1, max(0, now-1), 10, max(0, now-1) + 40, 1},
			{0, 0, 10, 40, 0}, {1, 0, 10, 40, 1},
		} {
			for cpu := range 4 {
				s := sysOn(4, now, onCpu(cpu, asleep(dueNo(7, row.left, row.due))))
				s.Missed = 6
				want := turned(s, func(s *impl.Sys) {
					s.Now, s.Missed = now+1, 6+row.missed
					s.Tasks[0] = idle(onCpu(cpu, asleep(dueNo(7, row.wantLeft, row.wantDue))))
					s.Trace = []impl.Turn{turnOf(0, 0, 0), turnOf(1, 0, 0), turnOf(2, 0, 0), turnOf(3, 0, 0)}
				})
				wantTick(t, s, want)
			}
		}
	}
}

// Who is Idle is left alone, whether it stays so or wakes.
func TestIdleDuesAreNotRenewed(t *testing.T) {
	for _, left := range []int{0, 1, 10} {
		for _, due := range []int{0, 49, 50, 51} {
			s := sysOn(1, 50, idle(asleep(dueNo(7, left, due))))
			want := turned(s, func(s *impl.Sys) { s.Now, s.Trace = 51, []impl.Turn{turnOf(0, 0, 0)} })
			wantTick(t, s, want)
		}
		for _, due := range []int{0, 49, 50} {
			s := sysOn(1, 50, idle(dueNo(7, left, due)))
			want := sysOn(1, 51, dueNo(7, 9, 90))
			want.Trace = []impl.Turn{turnOf(0, 7, 7)}
			wantTick(t, s, want)
		}
	}
}

// What is renewed may have its turn in the same tick; what had none left and is
// not yet due may not.
func TestTurnsOfWhatIsRenewed(t *testing.T) {
	s := sysOn(1, 50, dueNo(7, 0, 50))
	want := sysOn(1, 51, dueNo(7, 9, 90))
	want.Trace = []impl.Turn{turnOf(0, 7, 7)}
	wantTick(t, s, want)
	s = sysOn(1, 50, dueNo(7, 0, 51))
	want = sysOn(1, 51, dueNo(7, 0, 51))
	want.Trace = []impl.Turn{turnOf(0, 0, 0)}
	wantTick(t, s, want)
	// who is before whom goes by what Due is then
	s = sysOn(1, 50, dueNo(7, 4, 50), dueNo(8, 4, 60))
	wantTurns(t, s, turnOf(0, 8, 8))
	wantTasks(t, s, dueNo(7, 10, 90), dueNo(8, 3, 60))
	// once a tick, however far behind
	wantTasks(t, sysOn(1, 500, asleep(dueNo(7, 0, 300))), idle(asleep(dueNo(7, 10, 340))))
}

func TestMissedOfSeveral(t *testing.T) {
	var tasks []impl.Task
	for i := range 8 {
		tasks = append(tasks, onCpu(i%4, changed(changed(dueNo(1+i, i%3, 50+i%2), "Q", 5), "P", 40)))
	}
	// of 1, 3, 5 and 7, which are due, 3 and 5 have something left
	for missed, want := range map[int]int{0: 2, 7: 9, 99997: 99999, 99998: 100000, 99999: 100000, 100000: 100000} {
		s := sysOn(4, 50, tasks...)
		s.Missed = missed
		if got := ticked(t, s).Missed; got != want {
			t.Errorf("%d and two more are %d", missed, got)
		}
	}
	one := sysOn(1, 50, asleep(dueNo(7, 1, 50)))
	for missed, want := range map[int]int{0: 1, 99998: 99999, 99999: 100000, 100000: 100000} {
		one.Missed = missed
		if got := ticked(t, one).Missed; got != want {
			t.Errorf("%d and one more are %d", missed, got)
		}
	}
}

// Only deadlines are missed: what others have left is their own.
func TestOthersMissNothing(t *testing.T) {
	s := sysOn(2, 50, roundNo(3, 4, 5, 5, 0), onCpu(1, fairNo(4, 0)), asleep(roundNo(5, 4, 5, 2, 0)), asleep(fairNo(6, 0)))
	if got := ticked(t, s).Missed; got != 0 {
		t.Error(got)
	}
}

func TestWhoIsIdle(t *testing.T) {
	for _, task := range []impl.Task{dueNo(5, 3, 60), fixedNo(5, 4, 9), roundNo(5, 4, 3, 2, 9), fairNo(5, 31)} {
		for _, was := range []impl.Task{asleep(task), idle(asleep(task))} {
			s := sysOn(1, 50, was)
			wantTasks(t, s, idle(asleep(task)))
			wantTurns(t, s, turnOf(0, 0, 0))
		}
		if got := ticked(t, sysOn(1, 50, task)).Tasks[0].Idle; got {
			t.Errorf("%+v is Idle", task)
		}
		if got := ticked(t, sysOn(1, 50, idle(task))).Tasks[0].Idle; got {
			t.Errorf("%+v is not woken", task)
		}
	}
	// it can run, and does not: it is not Idle for that
	s := sysOn(1, 50, dueNo(3, 1, 60), dueNo(4, 0, 60), idle(dueNo(5, 0, 100)), fixedNo(6, 1, 0), fairNo(7, 0))
	for _, task := range ticked(t, s).Tasks {
		if task.Idle {
			t.Errorf("%+v is Idle", task)
		}
	}
}

// A chain of 40, 30, 20 and 10, which is its end: who sleeps between both ends is
// Idle itself, and nobody else is for that.
func TestWhoIsIdleAlongAChain(t *testing.T) {
	tasks := []impl.Task{fairNo(10, 5), fairNo(20, 5), fairNo(30, 5), fairNo(40, 5), fairNo(50, 5)}
	for asleepOnes := range 32 {
		for idleOnes := range 32 {
			s := sysOn(1, 0, tasks...)
			s = turned(s, func(s *impl.Sys) { s.Locks = fiveLocks(lockOf(30, 40), lockOf(10, 20), lockOf(20, 30)) })
			for i := range s.Tasks {
				s.Tasks[i].State = 1 + asleepOnes>>i&1
				s.Tasks[i].Idle = idleOnes>>i&1 == 1
			}
			endSleeps := s.Tasks[0].State == 2
			for i, task := range ticked(t, s).Tasks {
				if want := s.Tasks[i].State == 2 || endSleeps && i < 4; task.Idle != want {
					t.Fatalf("of %+v is %+v", s.Tasks, task)
				}
			}
		}
	}
}

// Whoever waits for one that sleeps is Idle, and is woken together with that one.
func TestWokenByAnOwner(t *testing.T) {
	s := sysOn(1, 10, fairNo(1, 4), fixedNo(2, 3, 0), dueNo(3, 5, 45))
	s.Locks = fiveLocks(lockOf(1, 2, 3))
	s.Floors[0] = 2
	s.Tasks[0] = asleep(s.Tasks[0])
	s = ticked(t, s)
	if !slices.Equal(s.Tasks, []impl.Task{idle(asleep(fairNo(1, 4))), idle(fixedNo(2, 3, 0)), idle(dueNo(3, 5, 45))}) || s.Trace[0] != turnOf(0, 0, 0) || s.Floors[0] != 2 {
		t.Errorf("asleep: %+v", s)
	}
	s = ticked(t, s)
	if !s.Tasks[0].Idle || !s.Tasks[1].Idle || !s.Tasks[2].Idle || s.Trace[1] != turnOf(0, 0, 0) {
		t.Errorf("still asleep: %+v", s)
	}
	s.Tasks[0].State, s.Floors[0] = 1, 9
	s = ticked(t, s)
	// 5 is not more than its part of the 33 ticks from 12 on
	if !slices.Equal(s.Tasks, []impl.Task{fairNo(1, 9), fixedNo(2, 3, 0), dueNo(3, 4, 45)}) || s.Trace[2] != turnOf(0, 3, 1) || s.Floors[0] != 9 {
		t.Errorf("woken: %+v", s)
	}
}

// DueWake goes by the time of the tick, not by the one behind it.
func TestDuesAreWoken(t *testing.T) {
	for _, now := range []int{0, 1, 50, 99999} {
		for _, row := range []struct{ left, due, wantLeft, wantDue int }{
			{0, now, 10, now + 40}, {7, now, 10, now + 40}, {0, now + 1, 0, now + 1}, {1, now + 1, 10, now + 40},
			{1, now + 3, 10, now + 40}, {1, now + 4, 1, now + 4}, {1, now + 5, 1, now + 5}, {2, now + 7, 10, now + 40}, {2, now + 8, 2, now + 8},
			{10, now + 39, 10, now + 40}, {10, now + 40, 10, now + 40}, {9, now + 36, 9, now + 36}, {9, now + 35, 10, now + 40}, {0, 100040, 0, 100040},
		} {
			// one before all others keeps it from a turn
			s := sysOn(1, now, dueNo(3, 2, now+1), idle(dueNo(7, row.left, row.due)))
			s.Tasks[0] = changed(changed(s.Tasks[0], "Q", 3), "P", 4)
			wantTasks(t, s, changed(s.Tasks[0], "Left", 1), dueNo(7, row.wantLeft, row.wantDue))
			if got := ticked(t, s).Missed; got != 0 {
				t.Errorf("%d missed of %+v", got, s)
			}
		}
	}
}

// The floor with which one wakes is the one ahead of the tick, and of its own Cpu.
func TestFairsAreWoken(t *testing.T) {
	for _, floor := range []int{0, 1, 29, 30, 31, 500, mostV - 1, mostV} {
		for _, v := range []int{0, 29, 30, 31, mostV} {
			s := sysOn(3, 8, onCpu(1, fixedNo(3, 4, 9)), onCpu(1, idle(fairNo(7, v))))
			s.Floors = []int{3, floor, 900}
			wantTasks(t, s, onCpu(1, fixedNo(3, 4, 9)), onCpu(1, fairNo(7, max(v, floor))))
			if got := ticked(t, s).Floors; !slices.Equal(got, []int{3, max(v, floor), 900}) {
				t.Errorf("floors %v of %+v", got, s)
			}
		}
	}
	// were the floor raised ahead of that, it would be 50
	s := sysOn(1, 8, fairNo(3, 50), idle(fairNo(7, 4)))
	s.Floors[0] = 10
	want := sysOn(1, 9, fairNo(3, 50), fairNo(7, 18))
	want.Floors[0], want.Trace = 10, []impl.Turn{turnOf(0, 7, 7)}
	wantTick(t, s, want)
	// nor does who is not woken take it
	s = sysOn(1, 8, fairNo(3, 4), idle(asleep(fairNo(7, 4))), asleep(fairNo(8, 4)))
	s.Floors[0] = 10
	wantTasks(t, s, fairNo(3, 12), idle(asleep(fairNo(7, 4))), idle(asleep(fairNo(8, 4))))
}

func TestFixedOnesAreWokenAsTheyAre(t *testing.T) {
	for _, task := range []impl.Task{fixedNo(5, 4, 9), fixedNo(5, 20, 1000000)} {
		s := sysOn(1, 8, idle(task))
		s.Floors[0] = 77
		wantTasks(t, s, task)
	}
	wantTasks(t, sysOn(1, 8, fixedNo(4, 9, 0), idle(roundNo(5, 4, 6, 2, 9))), fixedNo(4, 9, 0), roundNo(5, 4, 6, 2, 9))
}

// One wakes, one rests, in one tick, in either order of their numbers.
func TestOneWakesAndOneRests(t *testing.T) {
	for _, turnedRound := range []bool{false, true} {
		s := sysOn(1, 8, asleep(fairNo(3, 1)), idle(fairNo(7, 4)))
		want := sysOn(1, 9, idle(asleep(fairNo(3, 1))), fairNo(7, 14))
		context := 7
		if turnedRound {
			s = sysOn(1, 8, idle(fairNo(3, 4)), asleep(fairNo(7, 1)))
			want = sysOn(1, 9, fairNo(3, 14), idle(asleep(fairNo(7, 1))))
			context = 3
		}
		s.Floors[0], want.Floors[0] = 6, 6
		want.Trace = []impl.Turn{turnOf(0, context, context)}
		wantTick(t, s, want)
	}
	// a deadline's, on two processors
	s := sysOn(2, 50, asleep(dueNo(3, 4, 50)), onCpu(1, idle(dueNo(7, 4, 50))))
	want := sysOn(2, 51, idle(asleep(dueNo(3, 10, 90))), onCpu(1, dueNo(7, 9, 90)))
	want.Missed, want.Trace = 1, []impl.Turn{turnOf(0, 0, 0), turnOf(1, 7, 7)}
	wantTick(t, s, want)
}

func TestFloorsAreRaised(t *testing.T) {
	for _, row := range []struct {
		tasks []impl.Task
		floor int
		want  int
	}{
		{nil, 20, 20}, {[]impl.Task{fairNo(1, 30)}, 20, 30}, {[]impl.Task{fairNo(1, 20)}, 20, 20}, {[]impl.Task{fairNo(1, 10)}, 20, 20},
		{[]impl.Task{fairNo(1, 30), fairNo(2, 25)}, 20, 25}, {[]impl.Task{fairNo(1, 30), asleep(fairNo(2, 25))}, 20, 30},
		{[]impl.Task{fairNo(1, 30), idle(asleep(fairNo(2, 25)))}, 20, 30}, {[]impl.Task{fairNo(1, 30), idle(fairNo(2, 25))}, 20, 25},
		{[]impl.Task{fairNo(1, 30), idle(fairNo(2, 5))}, 20, 20}, {[]impl.Task{asleep(fairNo(1, 30)), asleep(fairNo(2, 40))}, 20, 20},
		{[]impl.Task{fairNo(1, 30), fixedNo(2, 3, 21)}, 20, 30}, {[]impl.Task{dueNo(1, 5, 60), fixedNo(2, 3, 21)}, 20, 20},
		{[]impl.Task{fairNo(1, mostV)}, 20, mostV}, {[]impl.Task{fairNo(1, mostV)}, mostV, mostV}, {[]impl.Task{fairNo(1, 0)}, 0, 0},
	} {
		for cpu := range 4 {
			s := sysOn(4, 50)
			// those of the other processors do not count
			for i := range 4 {
				if i != cpu {
					s.Tasks = append(s.Tasks, onCpu(i, fairNo(100+i, 70+i)))
				}
				s.Floors[i] = 60 + i
			}
			for i := range row.tasks {
				s.Tasks = slices.Insert(s.Tasks, i, onCpu(cpu, row.tasks[i]))
			}
			want := []int{70, 71, 72, 73}
			s.Floors[cpu], want[cpu] = row.floor, row.want
			if got := ticked(t, s).Floors; !slices.Equal(got, want) {
				t.Errorf("floors %v of %+v; want %v", got, s, want)
			}
		}
	}
	// whoever waits for one that sleeps is Idle, and does not count
	s := sysOn(1, 50, asleep(fairNo(1, 40)), fairNo(2, 10), fairNo(3, 30))
	s.Locks = fiveLocks(lockOf(1, 2))
	if got := ticked(t, s).Floors[0]; got != 30 {
		t.Errorf("floor %d", got)
	}
	s.Tasks[0].State = 1
	if got := ticked(t, s).Floors[0]; got != 10 {
		t.Errorf("floor %d", got)
	}
}

// Whose turn it is pays, in its own coin, and not who takes it: one of each
// class waits for one of each class.
func TestChargedIsWhoseTurnItIs(t *testing.T) {
	// the owner has a greater number and a lesser one, and is after the other
	for _, nos := range [][2]int{{3, 7}, {7, 3}} {
		waiter, owner := nos[0], nos[1]
		waiters := []struct{ task, want impl.Task }{
			{dueNo(waiter, 4, 60), dueNo(waiter, 3, 60)}, {fixedNo(waiter, 9, 2), fixedNo(waiter, 9, 2)},
			{roundNo(waiter, 9, 5, 3, 2), roundNo(waiter, 9, 5, 2, 2)}, {roundNo(waiter, 9, 5, 1, 2), roundNo(waiter, 9, 5, 5, 13)},
			{niceNo(waiter, 1, 5), niceNo(waiter, 1, 17)},
		}
		owners := []impl.Task{dueNo(owner, 4, 70), dueNo(owner, 0, 70), roundNo(owner, 8, 5, 3, 3), roundNo(owner, 8, 5, 1, 3), niceNo(owner, -1, 500)}
		for _, w := range waiters {
			for _, o := range owners {
				if o.Class < w.task.Class && (o.Class != 1 || o.Left > 0) {
					continue
				}
				s := sysOn(2, 50, onCpu(1, w.task), onCpu(1, o))
				s.Seq, s.Locks = 12, fiveLocks(lockOf(0), lockOf(owner, waiter))
				want := turned(s, func(s *impl.Sys) { s.Tasks = with(s.Tasks, onCpu(1, w.want)) })
				for _, both := range []*impl.Sys{&s, &want} {
					slices.SortFunc(both.Tasks, func(a impl.Task, b impl.Task) int { return a.No - b.No })
				}
				want.Now, want.Trace = 51, []impl.Turn{turnOf(0, 0, 0), turnOf(1, waiter, owner)}
				want.Floors[1] = flooredByWord(s.Tasks, 0)
				if w.want.Seq == 13 {
					want.Seq = 13
				}
				wantTick(t, s, want)
			}
		}
	}
}

// Where the owner is before whoever waits, the turn is its own.
func TestOwnersHaveTurnsOfTheirOwn(t *testing.T) {
	s := sysOn(1, 50, dueNo(3, 4, 60), dueNo(7, 4, 70))
	s.Locks = fiveLocks(lockOf(3, 7))
	wantTurns(t, s, turnOf(0, 3, 3))
	wantTasks(t, s, dueNo(3, 3, 60), dueNo(7, 4, 70))
	// with nothing left it takes the other's
	s.Tasks[0].Left = 0
	wantTurns(t, s, turnOf(0, 7, 3))
	wantTasks(t, s, dueNo(3, 0, 60), dueNo(7, 3, 70))
}

// A turn that is lent to a task that sleeps is nobody's; the next one has it.
func TestTurnsThatSleepersCannotTake(t *testing.T) {
	s := sysOn(1, 50, dueNo(3, 4, 60), asleep(fixedNo(5, 4, 0)), fairNo(7, 8))
	s.Locks = fiveLocks(lockOf(5, 3))
	want := sysOn(1, 51, idle(dueNo(3, 4, 60)), idle(asleep(fixedNo(5, 4, 0))), fairNo(7, 16))
	want.Locks, want.Floors[0], want.Trace = s.Locks, 8, []impl.Turn{turnOf(0, 7, 7)}
	wantTick(t, s, want)
	s.Locks = fiveLocks(lockOf(5, 3, 7))
	want = sysOn(1, 51, idle(dueNo(3, 4, 60)), idle(asleep(fixedNo(5, 4, 0))), idle(fairNo(7, 8)))
	want.Locks, want.Trace = s.Locks, []impl.Turn{turnOf(0, 0, 0)}
	wantTick(t, s, want)
	// who sleeps between both ends keeps nobody from it
	s = sysOn(1, 50, dueNo(3, 4, 60), asleep(fixedNo(5, 4, 0)), fairNo(7, 8))
	s.Locks = fiveLocks(lockOf(5, 3), lockOf(7, 5))
	want = sysOn(1, 51, dueNo(3, 3, 60), idle(asleep(fixedNo(5, 4, 0))), fairNo(7, 8))
	want.Locks, want.Floors[0], want.Trace = s.Locks, 8, []impl.Turn{turnOf(0, 3, 7)}
	wantTick(t, s, want)
}

// Each turn that goes behind on one processor has a place of its own, in the
// order of the processors, not of the numbers.
func TestPlacesOfSeveralThatGoBehind(t *testing.T) {
	for cpus := 1; cpus <= 4; cpus++ {
		for lefts := range 1 << cpus {
			for _, seq := range []int{0, 9, 899999, 900000} {
				s := sysOn(cpus, 5)
				s.Seq = seq
				for i := range cpus {
					// the last processor has the least number
					s.Tasks = append(s.Tasks, onCpu(cpus-1-i, roundNo(1+i, 4, 3, 2-lefts>>i&1, 1)))
				}
				want := turned(s, func(s *impl.Sys) { s.Now = 6 })
				for cpu := range cpus {
					task := &want.Tasks[cpus-1-cpu]
					if task.Left--; task.Left == 0 {
						want.Seq++
						task.Left, task.Seq = 3, want.Seq
					}
					want.Trace = append(want.Trace, turnOf(cpu, task.No, task.No))
				}
				wantTick(t, s, want)
			}
		}
	}
}

// Two of one priority take turns, a round each.
func TestRoundsTickByTick(t *testing.T) {
	s := sysOn(1, 0, roundNo(3, 4, 2, 2, 5), roundNo(7, 4, 3, 3, 6), fixedNo(9, 3, 0))
	s.Seq = 6
	s, times := impl.SysTicks(s, 11)
	var had []int
	for _, turn := range s.Trace {
		had = append(had, turn.Context)
	}
	if times != 11 || !slices.Equal(had, []int{3, 3, 7, 7, 7, 3, 3, 7, 7, 7, 3}) || s.Seq != 10 {
		t.Errorf("%v of %+v", had, s)
	}
	if !slices.Equal(s.Tasks, []impl.Task{roundNo(3, 4, 2, 1, 9), roundNo(7, 4, 3, 3, 10), fixedNo(9, 3, 0)}) {
		t.Errorf("%+v", s.Tasks)
	}
}

// What would be more than V may be is not charged; the turn is had all the same.
func TestFairTurnsAtTheEnd(t *testing.T) {
	for _, row := range niceRows() {
		for v := mostV - 50; v <= mostV; v++ {
			s := sysOn(1, 5, niceNo(2, row.nice, v))
			s.Floors[0] = 7
			next := v + row.step
			if next > mostV {
				next = v
			}
			want := sysOn(1, 6, niceNo(2, row.nice, next))
			want.Floors[0], want.Trace = v, []impl.Turn{turnOf(0, 2, 2)}
			wantTick(t, s, want)
		}
	}
}

// Each processor has a turn, ascending, whoever has it, and behind all that stood
// there.
func TestTurnsOfEachProcessor(t *testing.T) {
	for busy := range 16 {
		s := sysOn(4, 5)
		s.Trace = []impl.Turn{turnOf(3, 9, 9), turnOf(-1, math.MaxInt, math.MinInt), turnOf(0, 0, 0)}
		var want []impl.Turn
		for cpu := range 4 {
			if busy>>cpu&1 == 1 {
				no := 10 - cpu
				s.Tasks = slices.Insert(s.Tasks, 0, onCpu(cpu, fairNo(no, cpu)))
				want = append(want, turnOf(cpu, no, no))
			} else {
				want = append(want, turnOf(cpu, 0, 0))
			}
		}
		wantTurns(t, s, want...)
		next := ticked(t, s)
		wantLast(t, next, want...)
		for _, task := range next.Tasks {
			if task.V != task.Cpu+8 {
				t.Errorf("charged %+v", task)
			}
		}
	}
	// tasks that can't run leave a processor to nobody
	s := sysOn(3, 5, asleep(fixedNo(1, 2, 3)), onCpu(1, dueNo(2, 0, 60)), onCpu(2, fairNo(3, 0)))
	wantTurns(t, s, turnOf(0, 0, 0), turnOf(1, 0, 0), turnOf(2, 3, 3))
}

func TestClassesShareAProcessor(t *testing.T) {
	s := sysOn(1, 0, changed(changed(changed(dueNo(1, 1, 4), "Q", 1), "P", 4), "Left", 1), roundNo(2, 3, 2, 2, 1), fairNo(3, 0))
	s.Seq = 1
	for now, want := range []int{1, 2, 2, 2, 1, 2, 2, 2, 1} {
		s = ticked(t, s)
		wantLast(t, s, turnOf(0, want, want))
		if s.Now != now+1 || s.Missed != 0 || s.Floors[0] != 0 || s.Tasks[2] != fairNo(3, 0) {
			t.Errorf("%+v", s)
		}
	}
	s.Tasks[1].State = 2
	for _, want := range []int{3, 3, 3, 1, 3} {
		s = ticked(t, s)
		wantLast(t, s, turnOf(0, want, want))
	}
	if s.Tasks[2].V != 32 || !s.Tasks[1].Idle {
		t.Errorf("%+v", s)
	}
}

func TestTheEndOfTime(t *testing.T) {
	for _, s := range rightSystems() {
		s = turned(s, func(s *impl.Sys) { s.Seq, s.Trace = 0, nil })
		for _, now := range []int{0, 1, 99998, 99999} {
			s.Now = now
			want, _ := tickByWord(s)
			wantTick(t, s, want)
			if want.Now != now+1 {
				t.Errorf("at %d then", want.Now)
			}
		}
		s.Now = 100000
		wantNotTicked(t, s)
		s.Now = 100001
		wantNothingTicked(t, s)
		s.Now = 99998
		if got, times := impl.SysTicks(s, 5); times != 2 || got.Now != 100000 {
			t.Errorf("%d times, up to %d", times, got.Now)
		}
	}
	// the greatest Due there can be
	s := sysOn(1, 99999, dueNo(3, 0, 99999), idle(dueNo(5, 3, 99999)))
	wantTasks(t, s, dueNo(3, 9, 100039), dueNo(5, 10, 100039))
	if !impl.SysOk(ticked(t, s)) {
		t.Error("not right then")
	}
}

func TestSeqAtItsEnd(t *testing.T) {
	for _, s := range rightSystems() {
		s = turned(s, func(s *impl.Sys) { s.Now, s.Trace = 50, nil })
		for _, seq := range []int{0, 1, 899999, 900000} {
			s.Seq = seq
			want, _ := tickByWord(s)
			wantTick(t, s, want)
		}
		for _, seq := range []int{900001, 900004, 900005, 999999, 1000000} {
			s.Seq = seq
			wantNotTicked(t, s)
		}
		s.Seq = 1000001
		wantNothingTicked(t, s)
	}
	// one more is borne, then none, though there are turns that would not go behind
	s := sysOn(2, 50, roundNo(3, 4, 1, 1, 0), onCpu(1, roundNo(5, 4, 2, 2, 0)))
	s.Seq = 900000
	got, times := impl.SysTicks(s, 9)
	if times != 1 || got.Seq != 900001 || got.Tasks[0].Seq != 900001 || len(got.Trace) != 2 {
		t.Errorf("%d times: %+v", times, got)
	}
	wantNotTicked(t, got)
}

func TestTracesThatAreFull(t *testing.T) {
	for _, s := range rightSystems() {
		s = turned(s, func(s *impl.Sys) { s.Now, s.Seq = 50, 0 })
		for _, count := range []int{0, 1, 200, 399 - s.Cpus, 400 - s.Cpus} {
			s.Trace = slices.Repeat([]impl.Turn{turnOf(2, 9, 8)}, count)
			want, _ := tickByWord(s)
			wantTick(t, s, want)
			if len(want.Trace) != count+s.Cpus {
				t.Errorf("%d turns of %d", len(want.Trace), count)
			}
		}
		for count := 401 - s.Cpus; count <= 400; count++ {
			s.Trace = slices.Repeat([]impl.Turn{turnOf(2, 9, 8)}, count)
			wantNotTicked(t, s)
		}
		s.Trace = make([]impl.Turn, 401)
		wantNothingTicked(t, s)
	}
}

// No reason stands in another's way: with each of them, and with all, s is as it
// was, though it has ghosts that are over and deadlines to be missed.
func TestEachReasonNotToTick(t *testing.T) {
	s := sysOn(2, 100000, dueNo(3, 4, 7), onCpu(1, idle(fairNo(5, 1))), asleep(fairNo(9, 1)))
	s.Ghosts, s.Floors = ghosts(1, impl.Share{Q: 1, P: 2}, impl.Share{Q: 1, P: 3}), []int{4, 5}
	s.Locks = fiveLocks(lockOf(9, 3))
	for reasons := range 8 {
		now := turned(s, func(s *impl.Sys) {
			s.Now -= 1 - reasons&1
			s.Seq = 900000 + reasons>>1&1
			s.Trace = make([]impl.Turn, 398+reasons>>2&1)
		})
		want, ok := tickByWord(now)
		if ok != (reasons == 0) {
			t.Fatalf("%d is %t", reasons, ok)
		}
		wantTicking(t, now, want, ok)
	}
}

// wrongSystems are systems of each way in which one is not SysOk.
func wrongSystems() []impl.Sys {
	list := []impl.Sys{{}, {Cpus: 1}, {Cpus: 1, Locks: freeLocks(5)}, {Cpus: 1, Floors: []int{0}}, {Locks: freeLocks(5), Floors: []int{0}}}
	add := func(change func(s *impl.Sys)) {
		// one that could tick, and one that could not
		list = append(list, turned(busySys(), change), turned(fullSys(), change))
	}
	for _, odd := range []int{-1, 1000001, 1 << 32, math.MinInt, math.MaxInt} {
		add(func(s *impl.Sys) { s.Now = odd })
		add(func(s *impl.Sys) { s.Cpus = odd })
		add(func(s *impl.Sys) { s.Seq = odd })
		add(func(s *impl.Sys) { s.Missed = odd })
		add(func(s *impl.Sys) { s.Tasks[0].No = odd })
		add(func(s *impl.Sys) { s.Tasks[0].Cpu = odd })
		add(func(s *impl.Sys) { s.Tasks[1].State = odd })
		add(func(s *impl.Sys) { s.Tasks[1].Class = odd })
		add(func(s *impl.Sys) { s.Tasks[2].Left = odd })
		add(func(s *impl.Sys) { s.Locks[0].Owner = odd })
		add(func(s *impl.Sys) { s.Locks[0].Waits[1] = odd })
		add(func(s *impl.Sys) { s.Ghosts[1].Cpu = odd })
		add(func(s *impl.Sys) { s.Ghosts[1].S.Q = odd })
		add(func(s *impl.Sys) { s.Ghosts[1].S.P = odd })
		add(func(s *impl.Sys) { s.Ghosts[1].Until = odd })
	}
	for _, odd := range []int{-1, mostV + 1, math.MinInt, math.MaxInt} {
		add(func(s *impl.Sys) { s.Floors[s.Cpus-1] = odd })
	}
	for _, cpus := range []int{0, 1, 2, 5} {
		add(func(s *impl.Sys) { s.Cpus = cpus })
	}
	add(func(s *impl.Sys) { s.Now = 100001 })
	add(func(s *impl.Sys) { s.Missed = 100001 })
	add(func(s *impl.Sys) { s.Ghosts[0].Until = 100041 })
	add(func(s *impl.Sys) { s.Ghosts[0].Cpu = s.Cpus })
	add(func(s *impl.Sys) { s.Ghosts[0].S = impl.Share{Q: 1, P: 1} })
	add(func(s *impl.Sys) { s.Ghosts = ghosts(0, repeated(impl.Share{Q: 1, P: 40}, 13)...) })
	add(func(s *impl.Sys) { s.Tasks[0].Cpu = s.Cpus })
	add(func(s *impl.Sys) { s.Tasks[0].Cpu = 1 })
	add(func(s *impl.Sys) { s.Tasks[0], s.Tasks[1] = s.Tasks[1], s.Tasks[0] })
	add(func(s *impl.Sys) { s.Tasks[1].No = s.Tasks[0].No })
	add(func(s *impl.Sys) { s.Tasks = append(s.Tasks, tasksWith(991, 992, 993, 994)...) })
	add(func(s *impl.Sys) { s.Tasks = nil })
	add(func(s *impl.Sys) { s.Locks = nil })
	add(func(s *impl.Sys) { s.Locks = s.Locks[:4] })
	add(func(s *impl.Sys) { s.Locks = append(s.Locks, lockOf(0)) })
	add(func(s *impl.Sys) { s.Locks[0].Owner = 0 })
	add(func(s *impl.Sys) { s.Locks[0].Owner = 999 })
	add(func(s *impl.Sys) { s.Locks[0].Waits[0] = 999 })
	add(func(s *impl.Sys) { s.Locks[0].Waits[0] = s.Locks[0].Waits[1] })
	add(func(s *impl.Sys) { s.Locks[0].Waits[0] = s.Locks[0].Owner })
	add(func(s *impl.Sys) { s.Locks[0].Waits[0] = s.Locks[3].Owner })
	add(func(s *impl.Sys) { s.Floors = nil })
	add(func(s *impl.Sys) { s.Floors = s.Floors[:s.Cpus-1] })
	add(func(s *impl.Sys) { s.Floors = append(s.Floors, 0) })
	add(func(s *impl.Sys) { s.Trace = make([]impl.Turn, 401) })
	for _, tasks := range wrongTaskLists() {
		s := bareSys(4)
		s.Tasks = tasks
		list = append(list, s)
	}
	for _, locks := range wrongLocks() {
		s := bareSys(1)
		s.Tasks, s.Locks = hikers(), fiveLocks(locks...)
		list = append(list, s)
	}
	for _, share := range wrongShares() {
		s := bareSys(1)
		s.Ghosts = ghosts(0, share)
		list = append(list, s)
	}
	return list
}

func TestWrongSystemsDoNotTick(t *testing.T) {
	for _, s := range wrongSystems() {
		if sysOkByWord(s) {
			t.Fatalf("it is right: %+v", s)
		}
		wantNothingTicked(t, s)
		for _, n := range []int{math.MinInt, -1, 0, 1, 2, 500, math.MaxInt} {
			wantTicks(t, s, n, s, 0)
		}
	}
}

func TestTicksOfSoMany(t *testing.T) {
	for _, s := range rightSystems() {
		s = turned(s, func(s *impl.Sys) { s.Now, s.Seq, s.Trace = 50, 0, nil })
		for _, n := range []int{math.MinInt, math.MinInt + 1, -1 << 32, -5, -1, 0} {
			wantTicks(t, s, n, s, 0)
		}
		want, most := copySys(s), 400/s.Cpus
		for n := 1; n <= most; n++ {
			want, _ = tickByWord(want)
			if n < 9 || n > most-3 {
				wantTicks(t, s, n, want, n)
			}
		}
		for _, n := range []int{most + 1, most + 2, 1000, 1 << 32, math.MaxInt - 1, math.MaxInt} {
			wantTicks(t, s, n, want, most)
		}
		// what does not tick any more is as it was
		wantTicks(t, want, 1, want, 0)
		wantTicks(t, want, 0, want, 0)
		wantTicks(t, want, -1, want, 0)
	}
	for _, n := range []int{math.MinInt, -1, 0, 1, 2, math.MaxInt} {
		wantTicks(t, fullSys(), n, fullSys(), 0)
	}
}

// So many and so many more are as many as both.
func TestTicksAddUp(t *testing.T) {
	var n numbers
	for range 300 {
		s := n.lively()
		first, second := n.below(20), n.below(20)
		half, did := impl.SysTicks(s, first)
		then, more := impl.SysTicks(half, second)
		wantTicks(t, s, first+second, then, did+more)
	}
}

func TestLastTurnsOfEachLength(t *testing.T) {
	for count := range 12 {
		var trace []impl.Turn
		for i := range count {
			trace = append(trace, turnOf(i%3, i, 100-i))
		}
		for cpus := 1; cpus <= 4; cpus++ {
			s := bareSys(cpus)
			s.Trace = trace
			wantLast(t, s, trace[max(0, count-cpus):]...)
		}
		// Cpus that no system has are counted by the same words
		for _, cpus := range []int{5, 6, 11, 12, 13, 400, 1 << 32, math.MaxInt - 1, math.MaxInt} {
			wantLast(t, impl.Sys{Cpus: cpus, Trace: trace}, trace[max(0, count-cpus):]...)
		}
		for _, cpus := range []int{0, -1, -2, -count, -1 << 32, math.MinInt, math.MinInt + 1} {
			wantLast(t, impl.Sys{Cpus: cpus, Trace: trace})
		}
	}
	wantLast(t, impl.Sys{})
	wantLast(t, bareSys(4))
	wantLast(t, busySys(), turnOf(0, 10, 30), turnOf(1, 60, 60), turnOf(2, 0, 0))
}

func TestLastTurnsOfWrongSystems(t *testing.T) {
	for _, s := range wrongSystems() {
		s.Trace = []impl.Turn{turnOf(1, 2, 3), turnOf(-4, math.MinInt, math.MaxInt), turnOf(7, 8, 9)}
		switch {
		case s.Cpus < 1:
			wantLast(t, s)
		default:
			wantLast(t, s, s.Trace[max(0, 3-s.Cpus):]...)
		}
	}
	long := impl.Sys{Cpus: 2, Trace: append(make([]impl.Turn, 5000), turnOf(1, 2, 3))}
	wantLast(t, long, turnOf(0, 0, 0), turnOf(1, 2, 3))
}

// lively is a system in which every step has something to do; it is right more
// often than not.
func (n *numbers) lively() impl.Sys {
	now := n.oneOf(0, 1, 60, 99990, n.below(100000))
	if n.below(12) == 0 {
		now = n.oneOf(99999, 100000)
	}
	s := bareSys(1 + n.below(4))
	s.Now, s.Seq, s.Missed = now, n.oneOf(0, 9, 700), n.oneOf(0, 3, 99999, 100000)
	if n.below(8) == 0 {
		s.Seq, s.Trace = n.oneOf(899999, 900000, 900001), make([]impl.Turn, n.oneOf(0, 396, 397, 398, 399, 400))
	}
	for i := range n.below(13) {
		s.Tasks = append(s.Tasks, n.livelyTask(1+5*i, now, s.Cpus))
	}
	for range n.below(4) {
		s.Ghosts = append(s.Ghosts, impl.Ghost{Cpu: n.below(s.Cpus), S: impl.Share{Q: 1, P: 30 + n.below(11)}, Until: max(0, now+n.below(5)-2)})
	}
	for cpu := range s.Floors {
		s.Floors[cpu] = n.below(60)
	}
	for range n.below(40) {
		i, no := n.below(5), 1+5*n.below(12)
		if impl.SameCpu(s, i, no) {
			s.Locks, _ = impl.LockAsk(s.Locks, i, no)
		}
	}
	return s
}

func (n *numbers) livelyTask(no int, now int, cpus int) impl.Task {
	var task impl.Task
	switch n.below(3) {
	case 0:
		q := 1 + n.below(4)
		task = impl.Task{Class: 1, Q: q, P: 20 + n.below(21), Left: n.below(q + 1), Due: max(0, now+n.oneOf(-30, -1, 0, 1, 2, 5, 20))}
	case 1:
		task = impl.Task{Class: 2, Prio: 1 + n.below(3), Round: n.below(4), Seq: n.below(10)}
		task.Left = min(task.Round, 1+n.below(3))
	default:
		task = impl.Task{Class: 3, Nice: n.below(9) - 4, V: n.below(80)}
	}
	task.No, task.Cpu, task.State, task.Idle = no, n.below(cpus), 1+n.below(5)/4, n.below(3) == 0
	return task
}

func TestManyTicksByWord(t *testing.T) {
	var n numbers
	done, same, nothing := 0, 0, 0
	for range 20000 {
		s := n.lively()
		if n.below(8) == 0 {
			n.worsen(&s)
		}
		want, ok := tickByWord(s)
		wantTicking(t, s, want, ok)
		switch {
		case ok:
			done++
		case want.Cpus > 0:
			same++
		default:
			nothing++
		}
	}
	if done < 10000 || min(same, nothing) < 500 {
		t.Errorf("too few of one kind to tell: %d ticks, %d as it was, %d nothing", done, same, nothing)
	}
}

// In a long run others sleep and wake, and locks go from one to the other.
func TestLongRunsByWord(t *testing.T) {
	var n numbers
	for range 60 {
		s := turned(n.lively(), func(s *impl.Sys) { s.Now, s.Seq, s.Trace = n.below(90000), 0, nil })
		for i, task := range s.Tasks {
			s.Tasks[i].Due = min(task.Due, s.Now+5)
		}
		if !sysOkByWord(s) {
			continue
		}
		for range 90 {
			want, _ := tickByWord(s)
			wantTick(t, s, want)
			s = want
			n.stir(&s)
		}
		if len(s.Trace) != 90*s.Cpus {
			t.Errorf("%d turns", len(s.Trace))
		}
	}
}

// stir does what a caller may do between two ticks.
func (n *numbers) stir(s *impl.Sys) {
	if len(s.Tasks) == 0 {
		return
	}
	task := &s.Tasks[n.below(len(s.Tasks))]
	i := n.below(5)
	switch n.below(5) {
	case 0:
		task.State = 3 - task.State
	case 1:
		if impl.SameCpu(*s, i, task.No) {
			s.Locks, _ = impl.LockAsk(s.Locks, i, task.No)
		}
	case 2:
		next := 0
		if len(s.Locks[i].Waits) > 0 {
			next = s.Locks[i].Waits[0]
		}
		s.Locks, _ = impl.LockFree(s.Locks, i, s.Locks[i].Owner, next)
	}
}

// Promise 10: each tick gives each processor one turn, and charges whose turn it
// is alone.
func TestEachTickChargesWhoseTurnItIsAlone(t *testing.T) {
	var n numbers
	had, lent, nobody := 0, 0, 0
	for range 12000 {
		s := n.lively()
		next, ok := impl.SysTick(s)
		if !ok {
			continue
		}
		ahead := untilTurnsByWord(s)
		turns := next.Trace[len(s.Trace):]
		if !slices.Equal(next.Trace[:len(s.Trace)], s.Trace) || len(turns) != s.Cpus || !slices.Equal(turns, impl.LastTurns(next)) {
			t.Fatalf("turns %v of %+v", next.Trace, s)
		}
		behind := ahead.Seq
		var charged []int
		for cpu, turn := range turns {
			if context, executor := impl.Pick(ahead.Tasks, ahead.Locks, cpu); turn != turnOf(cpu, context, executor) {
				t.Fatalf("turn %v on %d of %+v", turn, cpu, s)
			}
			switch {
			case turn.Context == 0:
				nobody++
				continue
			case turn.Context != turn.Executor:
				lent++
			default:
				had++
			}
			charged = append(charged, turn.Context)
			was, _ := taskByWord(ahead.Tasks, turn.Context)
			is, _ := taskByWord(next.Tasks, turn.Context)
			behind += wantChargedOnce(t, was, is, behind+1)
		}
		for at, task := range next.Tasks {
			if !slices.Contains(charged, task.No) && task != ahead.Tasks[at] {
				t.Fatalf("%+v, which has no turn, was %+v", task, ahead.Tasks[at])
			}
		}
		if next.Seq != behind || next.Missed != ahead.Missed || next.Now != s.Now+1 || !slices.Equal(next.Floors, ahead.Floors) || !impl.SysOk(next) {
			t.Fatalf("%+v of %+v", next, s)
		}
	}
	if min(had, lent, nobody) < 1000 {
		t.Errorf("too few of one kind to tell: %d had, %d lent, %d nobody's", had, lent, nobody)
	}
}

// wantChargedOnce tells how many places were taken.
func wantChargedOnce(t *testing.T, was impl.Task, is impl.Task, place int) int {
	t.Helper()
	want, places := was, 0
	switch {
	case was.Class == 1:
		want.Left--
	case was.Class == 3:
		want.V += 48 / weightByRow(was.Nice)
	case was.Round > 0 && was.Left == 1:
		want.Left, want.Seq, places = was.Round, place, 1
	case was.Round > 0:
		want.Left--
	}
	if is != want {
		t.Fatalf("charged %+v; want %+v", is, want)
	}
	return places
}

// In as many ticks as a trace bears each processor has as many turns, and nobody
// takes two in one tick.
func TestTurnsInALongRun(t *testing.T) {
	var n numbers
	for range 100 {
		s := turned(n.lively(), func(s *impl.Sys) { s.Now, s.Seq, s.Trace = n.below(90000), 0, nil })
		if !sysOkByWord(s) {
			continue
		}
		got, times := impl.SysTicks(s, math.MaxInt)
		if times != 400/s.Cpus || len(got.Trace) != times*s.Cpus || got.Now != s.Now+times {
			t.Fatalf("%d times, %d turns", times, len(got.Trace))
		}
		for tick := range times {
			takes := map[int]bool{}
			for cpu, turn := range got.Trace[tick*s.Cpus : (tick+1)*s.Cpus] {
				if turn.Cpu != cpu || turn.Executor != 0 && takes[turn.Executor] || (turn.Context == 0) != (turn.Executor == 0) {
					t.Fatalf("tick %d: %v", tick, turn)
				}
				takes[turn.Executor] = true
			}
		}
	}
}

// The same tick tells one and the same, many times over, and at once with others.
func TestTicksTellTheSame(t *testing.T) {
	var n numbers
	systems := []impl.Sys{busySys(), bareSys(4), turned(fullSys(), func(s *impl.Sys) { s.Now, s.Seq, s.Trace = 9, 9, nil })}
	for range 5 {
		systems = append(systems, n.lively())
	}
	defer runtime.GOMAXPROCS(runtime.GOMAXPROCS(0))
	for _, s := range systems {
		want, ok := tickByWord(s)
		later, times := impl.SysTicks(s, 30)
		for _, processors := range []int{1, 2, 8} {
			runtime.GOMAXPROCS(processors)
			for range 200 {
				if got, did := impl.SysTick(s); did != ok || !sameSys(got, want) {
					t.Fatalf("SysTick(%+v) = %+v, %t", s, got, did)
				}
			}
			var all sync.WaitGroup
			for range 8 {
				all.Go(func() {
					for range 5 {
						if got, did := impl.SysTicks(s, 30); did != times || !sameSys(got, later) {
							t.Errorf("SysTicks(%+v, 30) = %+v, %d", s, got, did)
						}
					}
				})
			}
			all.Wait()
		}
	}
}

// Nothing that a tick set going goes on behind it.
func TestTicksLeaveNobodyRunning(t *testing.T) {
	before := runtime.NumGoroutine()
	for range 300 {
		impl.SysTicks(busySys(), 20)
		impl.SysTick(fullSys())
		impl.SysTick(impl.Sys{})
	}
	// whoever is done may still be counted for a moment
	for end := time.Now().Add(10 * time.Second); runtime.NumGoroutine() > before && time.Now().Before(end); {
		time.Sleep(time.Millisecond)
	}
	if after := runtime.NumGoroutine(); after > before {
		t.Errorf("%d ran before, %d run then", before, after)
	}
}

// Two answers, to one question or to two, have nothing in common.
func TestTicksAreApart(t *testing.T) {
	s := busySys()
	one, two := ticked(t, s), ticked(t, s)
	want := copySys(two)
	three := ticked(t, two)
	wantThree := copySys(three)
	none, _ := impl.SysTicks(s, 0)
	wantSysOfItsOwn(t, "SysTick", one, func() bool {
		return sameSys(s, busySys()) && sameSys(two, want) && sameSys(three, wantThree) && sameSys(none, busySys())
	})
	wantSysOfItsOwn(t, "SysTick", three, func() bool { return sameSys(s, busySys()) && sameSys(two, want) && sameSys(none, busySys()) })
	wantSysOfItsOwn(t, "SysTicks", none, func() bool { return sameSys(s, busySys()) && sameSys(two, want) })
	last, again := impl.LastTurns(s), impl.LastTurns(s)
	last[0] = turnOf(-1, -1, -1)
	if !slices.Equal(again, busySys().Trace) || !sameSys(s, busySys()) {
		t.Errorf("%v and %v", last, again)
	}
}

// Lists of one system that lie in one piece of memory come back apart.
func TestTicksOfListsThatShareMemory(t *testing.T) {
	room := []int{10, 20, 30, 40, 50, 60}
	s := impl.Sys{Cpus: 1, Tasks: hikers(), Locks: freeLocks(5), Floors: room[:1]}
	s.Locks[0] = impl.Lock{Owner: 10, Waits: room[1:3]}
	s.Locks[1] = impl.Lock{Owner: 20, Waits: room[3:6]}
	asItWas := func() bool { return slices.Equal(room, []int{10, 20, 30, 40, 50, 60}) }
	want, _ := tickByWord(s)
	for range 3 {
		got, ok := impl.SysTick(s)
		if !ok || !sameSys(got, want) {
			t.Errorf("%+v, %t of %+v", got, ok, s)
		}
		wantSysOfItsOwn(t, "SysTick", got, asItWas)
		got, _ = impl.SysTicks(s, 0)
		wantSysOfItsOwn(t, "SysTicks", got, asItWas)
	}
	s.Now = 100000
	got, _ := impl.SysTick(s)
	wantSysOfItsOwn(t, "SysTick", got, asItWas)
}

func TestTicksKeepNothing(t *testing.T) {
	want, _ := tickByWord(busySys())
	for range 3 {
		wantTick(t, busySys(), want)
		wantNothingTicked(t, impl.Sys{})
		wantNotTicked(t, fullSys())
		wantTicks(t, busySys(), 1, want, 1)
		wantTicks(t, impl.Sys{}, 1, impl.Sys{}, 0)
		wantLast(t, want, turnOf(0, 10, 30), turnOf(1, 60, 60), turnOf(2, 70, 70))
		wantLast(t, impl.Sys{})
	}
}
