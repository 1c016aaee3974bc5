package tests

import (
	"math"
	"slices"
	"strings"
	"testing"

	"loop.example/g00185/impl"
)

func dueCall(no int, cpu int, a int, b int) impl.Call {
	return impl.Call{Kind: 1, No: no, Cpu: cpu, A: a, B: b}
}

func fixedCall(no int, cpu int, prio int, round int) impl.Call {
	return impl.Call{Kind: 2, No: no, Cpu: cpu, A: prio, B: round}
}

func fairCall(no int, cpu int, nice int) impl.Call {
	return impl.Call{Kind: 3, No: no, Cpu: cpu, A: nice}
}

func sleepCall(no int) impl.Call { return impl.Call{Kind: 4, No: no} }

func wakeCall(no int) impl.Call { return impl.Call{Kind: 5, No: no} }

func exitCall(no int) impl.Call { return impl.Call{Kind: 6, No: no} }

func lockCall(no int, i int) impl.Call { return impl.Call{Kind: 7, No: no, A: i} }

func unlockCall(no int, i int) impl.Call { return impl.Call{Kind: 8, No: no, A: i} }

func niceCall(no int, nice int) impl.Call { return impl.Call{Kind: 9, No: no, A: nice} }

func moveCall(no int, cpu int) impl.Call { return impl.Call{Kind: 10, No: no, Cpu: cpu} }

func ticksCall(times int) impl.Call { return impl.Call{Kind: 11, A: times} }

// callsThatAreOk are calls of each Kind, most of which no system does.
func callsThatAreOk() []impl.Call {
	return []impl.Call{
		{Kind: 1}, {Kind: 2}, {Kind: 3}, {Kind: 4}, {Kind: 5}, {Kind: 6}, {Kind: 7}, {Kind: 8}, {Kind: 9}, {Kind: 10}, {Kind: 11},
		dueCall(5, 0, 1, 40), fixedCall(5, 0, 4, 2), fairCall(5, 0, 1), sleepCall(10), wakeCall(50), exitCall(70), lockCall(70, 1),
		unlockCall(80, 4), niceCall(80, 2), moveCall(80, 1), ticksCall(3),
		dueCall(-1, -1, -1, -1), fixedCall(-1, -1, -1, -1), fairCall(-1, -1, -1), sleepCall(-1), wakeCall(-1), exitCall(-1),
		lockCall(-1, -1), unlockCall(-1, -1), niceCall(-1, -1), moveCall(-1, -1), ticksCall(-1),
	}
}

// callsThatAreNotOk are of no Kind, or say what their Kind does not name.
func callsThatAreNotOk() []impl.Call {
	var list []impl.Call
	for _, kind := range []int{0, 12, -1, -11, 13, 256, 257, 1<<32 + 1, math.MinInt, math.MinInt + 1, math.MaxInt} {
		list = append(list, impl.Call{Kind: kind}, impl.Call{Kind: kind, No: 10}, impl.Call{Kind: kind, No: 5, A: 1, B: 2})
	}
	for _, odd := range []int{1, -1, 7, 1 << 32, math.MinInt, math.MaxInt} {
		list = append(list, impl.Call{Kind: 3, No: 5, B: odd}, impl.Call{Kind: 11, A: 1, No: odd}, impl.Call{Kind: 11, A: 1, Cpu: odd},
			impl.Call{Kind: 11, A: 1, B: odd}, impl.Call{Kind: 10, No: 80, A: odd}, impl.Call{Kind: 10, No: 80, B: odd})
		for _, kind := range []int{4, 5, 6} {
			list = append(list, impl.Call{Kind: kind, No: 50, Cpu: odd}, impl.Call{Kind: kind, No: 50, A: odd}, impl.Call{Kind: kind, No: 50, B: odd})
		}
		for _, kind := range []int{7, 8, 9} {
			list = append(list, impl.Call{Kind: kind, No: 80, A: 1, Cpu: odd}, impl.Call{Kind: kind, No: 80, A: 1, B: odd})
		}
	}
	return list
}

func wantCalling(t *testing.T, s impl.Sys, c impl.Call, want impl.Sys, code int) {
	t.Helper()
	given, asItWas := roomySys(s)
	got, did := impl.SysCall(given, c)
	if did != code || !sameSys(got, want) {
		t.Errorf("SysCall(%+v, %+v)\n= %+v, %d;\nwant %+v, %d", s, c, got, did, want, code)
	}
	if did == 0 && !impl.SysOk(got) {
		t.Errorf("SysCall(%+v, %+v)\nleaves %+v, which is not right", s, c, got)
	}
	wantSysOfItsOwn(t, "SysCall", got, asItWas)
}

// wantDone is of a call that is done, and of the one change that it makes.
func wantDone(t *testing.T, s impl.Sys, c impl.Call, change func(s *impl.Sys)) {
	t.Helper()
	wantCalling(t, s, c, turned(s, change), 0)
}

func wantRefused(t *testing.T, s impl.Sys, c impl.Call, code int) {
	t.Helper()
	wantCalling(t, s, c, s, code)
}

func wantNothingCalled(t *testing.T, s impl.Sys, c impl.Call) {
	t.Helper()
	wantCalling(t, s, c, impl.Sys{}, 1)
}

func wantRun(t *testing.T, s impl.Sys, list []impl.Call, want impl.Sys, codes ...int) {
	t.Helper()
	given, asItWas := roomySys(s)
	calls, callsAsTheyWere := spacious(list, sleepCall(77), impl.Call{Kind: -78})
	got, did := impl.SysRun(given, calls)
	if !slices.Equal(did, codes) || !sameSys(got, want) {
		t.Errorf("SysRun(%+v, %+v)\n= %+v, %v;\nwant %+v, %v", s, list, got, did, want, codes)
	}
	was := copySys(got)
	for i := range did {
		did[i] = -55
	}
	behind := append(did, -56)
	if !callsAsTheyWere() || !asItWas() || !sameSys(got, was) {
		t.Errorf("SysRun of %+v shares memory: %v", list, behind)
	}
	wantSysOfItsOwn(t, "SysRun", got, asItWas)
	if behind[len(behind)-1] != -56 || slices.ContainsFunc(did, func(code int) bool { return code != -55 }) {
		t.Errorf("the codes of SysRun share memory: %v", behind)
	}
}

// called is what a call that must be done makes of it.
func called(t *testing.T, s impl.Sys, list ...impl.Call) impl.Sys {
	t.Helper()
	for _, c := range list {
		next, code := impl.SysCall(s, c)
		if code != 0 {
			t.Fatalf("SysCall(%+v, %+v) is %d", s, c, code)
		}
		s = next
	}
	return s
}

func callOkByWord(c impl.Call) bool {
	named := []string{"", "NCAB", "NCAB", "NCA", "N", "N", "N", "NA", "NA", "NA", "NC", "A"}
	if !between(c.Kind, 1, 11) {
		return false
	}
	for at, number := range []int{c.No, c.Cpu, c.A, c.B} {
		if number != 0 && !strings.Contains(named[c.Kind], "NCAB"[at:at+1]) {
			return false
		}
	}
	return true
}

type reason struct {
	applies bool
	code    int
}

func newTaskByWord(s impl.Sys, c impl.Call) impl.Task {
	switch c.Kind {
	case 1:
		return impl.Task{No: c.No, Class: 1, Cpu: c.Cpu, State: 1, Q: c.A, P: c.B, Left: c.A, Due: s.Now + c.B}
	case 2:
		return impl.Task{No: c.No, Class: 2, Cpu: c.Cpu, State: 1, Prio: c.A, Round: c.B, Left: c.B, Seq: s.Seq + 1}
	}
	return impl.Task{No: c.No, Class: 3, Cpu: c.Cpu, State: 1, Nice: c.A, V: floorByWord(s, c.Cpu)}
}

func ticksByWord(s impl.Sys, n int) (impl.Sys, int) {
	for times := range n {
		next, ok := tickByWord(s)
		if !ok {
			return s, times
		}
		s = next
	}
	return s, n
}

// reasonsByWord are all reasons of a Kind to refuse, in the chapter's order.
func reasonsByWord(s impl.Sys, c impl.Call) []reason {
	task, known := taskByWord(s.Tasks, c.No)
	asleep, waits, owns := task.State == 2, waitAtByWord(s.Locks, c.No) >= 0, ownsByWord(s.Locks, c.No)
	noCpu, noLock := !between(c.Cpu, 0, s.Cpus-1), !between(c.A, 0, 4)
	switch c.Kind {
	case 1, 2, 3:
		fresh := newTaskByWord(s, c)
		counted := append(sharesByWord(s, c.Cpu), impl.Share{Q: c.A, P: c.B})
		return []reason{{noCpu || !rightByWord(fresh), 1}, {known, 3}, {len(s.Tasks) >= 12, 4},
			{c.Kind == 1 && !fitsByWord(counted), 4}, {c.Kind == 2 && s.Seq > 900000, 4}}
	case 4:
		return []reason{{!known, 2}, {asleep || waits, 5}}
	case 5:
		return []reason{{!known, 2}, {!asleep, 5}}
	case 6:
		return []reason{{!known, 2}, {owns || waits, 5}, {task.Class == 1 && task.Due > s.Now && len(s.Ghosts) >= 12, 4}}
	case 7:
		_, code := askByWord(s.Locks, c.A, c.No)
		return []reason{{!known || noLock, 2}, {asleep || waits, 5}, {code == impl.LkMine, 5}, {!sameCpuByWord(s, c.A, c.No), 5}, {code == impl.LkCycle, 6}}
	case 8:
		return []reason{{!known || noLock, 2}, {asleep || waits, 5}, {!noLock && s.Locks[max(0, min(c.A, 4))].Owner != c.No, 5}}
	case 9:
		return []reason{{!known, 2}, {task.Class != 3, 5}, {!between(c.A, -4, 4), 1}}
	case 10:
		return []reason{{!known, 2}, {task.Class != 3 || owns || waits, 5}, {noCpu, 1}}
	}
	if !between(c.A, 1, 50) {
		return []reason{{true, 1}}
	}
	_, times := ticksByWord(s, c.A)
	return []reason{{times < c.A, 4}}
}

// doneByWord is of a call that nothing speaks against.
func doneByWord(s impl.Sys, c impl.Call) impl.Sys {
	next := copySys(s)
	task, _ := taskByWord(s.Tasks, c.No)
	switch c.Kind {
	case 1, 2, 3:
		next.Tasks = append(next.Tasks, newTaskByWord(s, c))
		slices.SortFunc(next.Tasks, func(a impl.Task, b impl.Task) int { return a.No - b.No })
		if c.Kind == 2 {
			next.Seq++
		}
	case 4:
		next.Tasks = with(s.Tasks, changed(task, "State", 2))
	case 5:
		next.Tasks = with(s.Tasks, changed(task, "State", 1))
	case 6:
		next.Tasks = without(s.Tasks, c.No)
		if task.Class == 1 && task.Due > s.Now {
			next.Ghosts = append(next.Ghosts, impl.Ghost{Cpu: task.Cpu, S: impl.Share{Q: task.Q, P: task.P}, Until: task.Due})
		}
	case 7:
		next.Locks, _ = askByWord(s.Locks, c.A, c.No)
	case 8:
		next.Locks, _ = freeByWord(s.Locks, c.A, c.No, bestByWord(s.Tasks, s.Locks[c.A].Waits))
	case 9:
		next.Tasks = with(s.Tasks, changed(task, "Nice", c.A))
	case 10:
		next.Tasks = with(s.Tasks, fairMovedByWord(task, c.Cpu, s.Floors[task.Cpu], s.Floors[c.Cpu]))
	case 11:
		next, _ = ticksByWord(next, c.A)
	}
	return next
}

func callByWord(s impl.Sys, c impl.Call) (impl.Sys, int) {
	if !sysOkByWord(s) || !callOkByWord(c) {
		return impl.Sys{}, 1
	}
	for _, r := range reasonsByWord(s, c) {
		if r.applies {
			return s, r.code
		}
	}
	return doneByWord(s, c), 0
}

func runByWord(s impl.Sys, list []impl.Call) (impl.Sys, []int) {
	if len(list) > 150 || !sysOkByWord(s) {
		return s, nil
	}
	var codes []int
	for _, c := range list {
		next, code := callByWord(s, c)
		if code == 0 {
			s = next
		}
		codes = append(codes, code)
	}
	return s, codes
}

func TestCallConstants(t *testing.T) {
	kinds := []int{impl.CaDue, impl.CaFixed, impl.CaFair, impl.CaSleep, impl.CaWake, impl.CaExit, impl.CaLock, impl.CaUnlock, impl.CaNice, impl.CaMove, impl.CaTicks}
	codes := []int{impl.CoDone, impl.CoBad, impl.CoNone, impl.CoKnown, impl.CoFull, impl.CoState, impl.CoCycle}
	if !slices.Equal(kinds, []int{1, 2, 3, 4, 5, 6, 7, 8, 9, 10, 11}) || !slices.Equal(codes, []int{0, 1, 2, 3, 4, 5, 6}) {
		t.Error(kinds, codes)
	}
	if impl.MaxTicks != 50 || impl.MaxCalls != 150 {
		t.Error(impl.MaxTicks, impl.MaxCalls)
	}
}

func TestCallOkOfEachKind(t *testing.T) {
	for _, c := range callsThatAreOk() {
		if !impl.CallOk(c) {
			t.Errorf("CallOk(%+v) is false", c)
		}
	}
	for _, c := range callsThatAreNotOk() {
		if impl.CallOk(c) {
			t.Errorf("CallOk(%+v) is true", c)
		}
	}
}

// Every Kind with each number at 0, at 1, at -1 and at both ends.
func TestCallOkOfWhatIsNotNamed(t *testing.T) {
	odd := []int{0, 1, -1, math.MinInt, math.MaxInt}
	right := 0
	for kind := -1; kind <= 13; kind++ {
		for _, no := range odd {
			for _, cpu := range odd {
				for _, a := range odd {
					for _, b := range odd {
						c := impl.Call{Kind: kind, No: no, Cpu: cpu, A: a, B: b}
						if got := impl.CallOk(c); got != callOkByWord(c) {
							t.Errorf("CallOk(%+v) = %t", c, got)
						} else if got {
							right++
						}
					}
				}
			}
		}
	}
	// of five numbers each: two Kinds name four, one three, three one, three two, one two, one one
	if right != 2*625+125+3*5+3*25+25+5 {
		t.Errorf("%d are right", right)
	}
}

// What a Kind names may be any number as far as CallOk is asked.
func TestCallOkAsksNothingOfWhatIsNamed(t *testing.T) {
	for _, n := range []int{math.MinInt, -1001, -5, 0, 5, 51, 1001, math.MaxInt} {
		for _, c := range []impl.Call{dueCall(n, n, n, n), fixedCall(n, n, n, n), fairCall(n, n, n), sleepCall(n), wakeCall(n), exitCall(n),
			lockCall(n, n), unlockCall(n, n), niceCall(n, n), moveCall(n, n), ticksCall(n)} {
			if !impl.CallOk(c) {
				t.Errorf("CallOk(%+v) is false", c)
			}
		}
	}
}

func TestNewTasksOfEachClass(t *testing.T) {
	for cpus := 1; cpus <= 4; cpus++ {
		for cpu := range cpus {
			s := bareSys(cpus)
			s.Now, s.Seq, s.Floors[cpu] = 9, 30, 70
			wantDone(t, s, dueCall(5, cpu, 2, 7), func(s *impl.Sys) {
				s.Tasks = []impl.Task{{No: 5, Class: 1, Cpu: cpu, State: 1, Q: 2, P: 7, Left: 2, Due: 16}}
			})
			wantDone(t, s, fixedCall(5, cpu, 4, 3), func(s *impl.Sys) {
				s.Tasks, s.Seq = []impl.Task{{No: 5, Class: 2, Cpu: cpu, State: 1, Prio: 4, Round: 3, Left: 3, Seq: 31}}, 31
			})
			wantDone(t, s, fixedCall(5, cpu, 20, 0), func(s *impl.Sys) {
				s.Tasks, s.Seq = []impl.Task{{No: 5, Class: 2, Cpu: cpu, State: 1, Prio: 20, Seq: 31}}, 31
			})
			wantDone(t, s, fairCall(5, cpu, -3), func(s *impl.Sys) {
				s.Tasks = []impl.Task{{No: 5, Class: 3, Cpu: cpu, State: 1, Nice: -3, V: 70}}
			})
		}
	}
}

// Ahead of all others, between them and behind them.
func TestNewTasksAmongOthers(t *testing.T) {
	for at, no := range []int{1, 15, 25, 35, 45, 55, 65, 75, 85, 1000} {
		wantDone(t, busySys(), dueCall(no, 1, 1, 12), func(s *impl.Sys) {
			s.Tasks = slices.Insert(s.Tasks, at, impl.Task{No: no, Class: 1, Cpu: 1, State: 1, Q: 1, P: 12, Left: 1, Due: 19})
		})
		wantDone(t, busySys(), fixedCall(no, 2, 1, 10), func(s *impl.Sys) {
			s.Tasks = slices.Insert(s.Tasks, at, impl.Task{No: no, Class: 2, Cpu: 2, State: 1, Prio: 1, Round: 10, Left: 10, Seq: 10})
			s.Seq = 10
		})
		for cpu, floor := range []int{30, 12, 0} {
			wantDone(t, busySys(), fairCall(no, cpu, 4), func(s *impl.Sys) {
				s.Tasks = slices.Insert(s.Tasks, at, impl.Task{No: no, Class: 3, Cpu: cpu, State: 1, Nice: 4, V: floor})
			})
		}
	}
}

// A nice of 0, an end of time, a floor at its end.
func TestNewTasksAtTheEnds(t *testing.T) {
	s := bareSys(1)
	s.Now, s.Floors[0] = 100000, mostV
	wantDone(t, s, dueCall(1000, 0, 40, 40), func(s *impl.Sys) {
		s.Tasks = []impl.Task{{No: 1000, Class: 1, State: 1, Q: 40, P: 40, Left: 40, Due: 100040}}
	})
	wantDone(t, s, fairCall(1, 0, 0), func(s *impl.Sys) { s.Tasks = []impl.Task{fairNo(1, mostV)} })
	for _, row := range niceRows() {
		wantDone(t, s, fairCall(1, 0, row.nice), func(s *impl.Sys) { s.Tasks = []impl.Task{niceNo(1, row.nice, mostV)} })
	}
	for prio := 1; prio <= 20; prio++ {
		wantDone(t, s, fixedCall(1, 0, prio, prio/2), func(s *impl.Sys) {
			s.Tasks, s.Seq = []impl.Task{roundNo(1, prio, prio/2, prio/2, 1)}, 1
		})
	}
}

func TestNewTasksThatAreNotRight(t *testing.T) {
	for _, s := range []impl.Sys{busySys(), bareSys(1), bareSys(4)} {
		for _, no := range noNos() {
			wantRefused(t, s, dueCall(no, 0, 1, 40), 1)
			wantRefused(t, s, fixedCall(no, 0, 4, 2), 1)
			wantRefused(t, s, fairCall(no, 0, 1), 1)
		}
		for _, share := range wrongShares() {
			wantRefused(t, s, dueCall(5, 0, share.Q, share.P), 1)
		}
		for _, prio := range []int{0, 21, -1, -20, 1<<32 + 1, math.MinInt, math.MaxInt} {
			wantRefused(t, s, fixedCall(5, 0, prio, 2), 1)
		}
		for _, round := range []int{-1, 11, -10, 1 << 32, math.MinInt, math.MaxInt} {
			wantRefused(t, s, fixedCall(5, 0, 4, round), 1)
		}
		for _, nice := range noNices() {
			wantRefused(t, s, fairCall(5, 0, nice), 1)
		}
	}
}

func TestNewTasksOnEachCpu(t *testing.T) {
	for cpus := 1; cpus <= 4; cpus++ {
		s := bareSys(cpus)
		for _, cpu := range append(wrongCpus(), 0, 1, 2, 3) {
			for _, c := range []impl.Call{dueCall(5, cpu, 1, 2), fixedCall(5, cpu, 1, 2), fairCall(5, cpu, 1)} {
				if between(cpu, 0, cpus-1) {
					if next := called(t, s, c); next.Tasks[0].Cpu != cpu {
						t.Errorf("%+v of %+v", next, c)
					}
				} else {
					wantRefused(t, s, c, 1)
				}
			}
		}
	}
}

func TestNewTasksThatAreKnown(t *testing.T) {
	for _, task := range busySys().Tasks {
		for cpu := range 3 {
			wantRefused(t, busySys(), dueCall(task.No, cpu, 1, 40), 3)
			wantRefused(t, busySys(), fixedCall(task.No, cpu, 4, 2), 3)
			wantRefused(t, busySys(), fairCall(task.No, cpu, 1), 3)
		}
	}
}

// crowd has so many tasks that share fairly, on two processors in turn.
func crowd(count int) impl.Sys {
	s := bareSys(2)
	for i := range count {
		s.Tasks = append(s.Tasks, onCpu(i%2, niceNo(10+10*i, i%5, i)))
	}
	return s
}

func TestAsManyNewTasksAsThereMayBe(t *testing.T) {
	for _, c := range []impl.Call{dueCall(5, 0, 1, 40), fixedCall(35, 1, 4, 2), fairCall(999, 1, 1)} {
		s := crowd(11)
		if next := called(t, s, c); len(next.Tasks) != 12 {
			t.Errorf("%+v", next)
		}
		wantRefused(t, crowd(12), c, 4)
	}
	// with one less there is room again
	s := called(t, crowd(12), exitCall(40), fairCall(45, 0, 0))
	wantRefused(t, s, fairCall(46, 0, 0), 4)
}

// Each list of parts, by tasks alone, by ghosts alone and by both, with the last
// one as the new task; and the same on a processor beside it.
func TestNewPartsThatFit(t *testing.T) {
	for _, p := range parts() {
		if len(p.list) == 0 || !fitsByWord(p.list[:len(p.list)-1]) {
			continue
		}
		counted, last := p.list[:len(p.list)-1], p.list[len(p.list)-1]
		for tasks := range len(counted) + 1 {
			for cpu := range 2 {
				s := bareSys(2)
				s.Tasks, s.Ghosts = dues(11, cpu, counted[:tasks]...), ghosts(cpu, counted[tasks:]...)
				c := dueCall(5, cpu, last.Q, last.P)
				if p.fit {
					wantDone(t, s, c, func(s *impl.Sys) {
						s.Tasks = slices.Insert(s.Tasks, 0, impl.Task{No: 5, Class: 1, Cpu: cpu, State: 1, Q: last.Q, P: last.P, Left: last.Q, Due: last.P})
					})
				} else {
					wantRefused(t, s, c, 4)
				}
				other := dueCall(5, 1-cpu, last.Q, last.P)
				if next, code := impl.SysCall(s, other); code != 0 || len(next.Tasks) != tasks+1 {
					t.Errorf("%+v beside %+v is %d", other, s, code)
				}
				// who has no part is not held against them
				if next, code := impl.SysCall(s, fairCall(5, cpu, 0)); code != 0 || len(next.Tasks) != tasks+1 {
					t.Errorf("a ClFair beside %+v is %d", s, code)
				}
			}
		}
	}
}

// A ghost counts up to the tick that ends it, whatever the time.
func TestNewPartsBesideGhosts(t *testing.T) {
	s := bareSys(1)
	s.Now, s.Ghosts = 8, []impl.Ghost{{S: impl.Share{Q: 1, P: 2}, Until: 8}}
	wantRefused(t, s, dueCall(5, 0, 2, 3), 4)
	s = called(t, s, ticksCall(1), dueCall(5, 0, 2, 3))
	if len(s.Ghosts) != 0 || s.Tasks[0].Due != 12 {
		t.Errorf("%+v", s)
	}
	// more than MaxShares parts, however small
	s = bareSys(1)
	s.Tasks, s.Ghosts = dues(1, 0, repeated(impl.Share{Q: 1, P: 40}, 3)...), ghosts(0, repeated(impl.Share{Q: 1, P: 40}, 3)...)
	s = called(t, s, dueCall(9, 0, 1, 40))
	wantRefused(t, s, dueCall(10, 0, 1, 40), 4)
}

func TestSeqOfNewFixedOnes(t *testing.T) {
	for _, seq := range []int{0, 1, 899999, 900000} {
		s := bareSys(1)
		s.Seq = seq
		wantDone(t, s, fixedCall(5, 0, 4, 2), func(s *impl.Sys) {
			s.Tasks, s.Seq = []impl.Task{roundNo(5, 4, 2, 2, seq+1)}, seq+1
		})
	}
	for _, seq := range []int{900001, 900002, 999999} {
		s := bareSys(1)
		s.Seq = seq
		wantRefused(t, s, fixedCall(5, 0, 4, 2), 4)
	}
	// with the last Seq of all the new task is not right, which is named first
	s := bareSys(1)
	s.Seq = 1000000
	wantRefused(t, s, fixedCall(5, 0, 4, 2), 1)
	// the others take no place
	for _, seq := range []int{900001, 1000000} {
		s.Seq = seq
		wantDone(t, s, dueCall(5, 0, 1, 2), func(s *impl.Sys) { s.Tasks = []impl.Task{{No: 5, Class: 1, State: 1, Q: 1, P: 2, Left: 1, Due: 2}} })
		wantDone(t, s, fairCall(5, 0, 1), func(s *impl.Sys) { s.Tasks = []impl.Task{niceNo(5, 1, 0)} })
	}
}

func TestSleepAndWaking(t *testing.T) {
	for _, task := range []impl.Task{dueNo(5, 3, 60), dueNo(5, 0, 0), fixedNo(5, 4, 9), roundNo(5, 4, 3, 2, 9), niceNo(5, 2, 31)} {
		for _, one := range []impl.Task{task, idle(task)} {
			for cpu := range 2 {
				s := sysOn(2, 8, fairNo(1, 4), onCpu(cpu, one), fairNo(9, 4))
				s.Floors, s.Seq = []int{40, 50}, 12
				wantDone(t, s, sleepCall(5), func(s *impl.Sys) { s.Tasks[1].State = 2 })
				wantRefused(t, s, wakeCall(5), 5)
				s.Tasks[1].State = 2
				wantDone(t, s, wakeCall(5), func(s *impl.Sys) { s.Tasks[1].State = 1 })
				wantRefused(t, s, sleepCall(5), 5)
			}
		}
	}
	for _, no := range append(noNos(), 1, 5, 15, 95, 1000) {
		wantRefused(t, busySys(), sleepCall(no), 2)
		wantRefused(t, busySys(), wakeCall(no), 2)
		wantRefused(t, bareSys(3), sleepCall(no), 2)
		wantRefused(t, bareSys(3), wakeCall(no), 2)
	}
}

// Who has a lock may sleep; who waits may not. Who waits and was asleep already
// may be woken.
func TestSleepOfOwnersAndOfWhoWaits(t *testing.T) {
	for at, no := range []int{10, 20, 30, 40, 50, 60, 70, 80, 90} {
		switch no {
		case 10, 20, 40, 90:
			wantRefused(t, busySys(), sleepCall(no), 5)
		case 50:
			wantRefused(t, busySys(), sleepCall(no), 5)
			wantDone(t, busySys(), wakeCall(no), func(s *impl.Sys) { s.Tasks[at].State = 1 })
			continue
		default:
			wantDone(t, busySys(), sleepCall(no), func(s *impl.Sys) { s.Tasks[at].State = 2 })
		}
		wantRefused(t, busySys(), wakeCall(no), 5)
		sleeps := turned(busySys(), func(s *impl.Sys) { s.Tasks[at].State = 2 })
		wantRefused(t, sleeps, sleepCall(no), 5)
		wantDone(t, sleeps, wakeCall(no), func(s *impl.Sys) { s.Tasks[at].State = 1 })
	}
}

// What a task has is settled by the tick behind its waking, not by the call.
func TestWakingIsSettledByTheTick(t *testing.T) {
	s := sysOn(1, 0, dueNo(3, 5, 9), niceNo(7, 4, 0))
	s = called(t, s, sleepCall(3), sleepCall(7), ticksCall(10))
	if !slices.Equal(s.Tasks, []impl.Task{idle(asleep(dueNo(3, 5, 9))), idle(asleep(niceNo(7, 4, 0)))}) {
		t.Errorf("%+v", s)
	}
	s.Floors[0] = 20
	s = called(t, s, wakeCall(3), wakeCall(7))
	if !slices.Equal(s.Tasks, []impl.Task{idle(dueNo(3, 5, 9)), idle(niceNo(7, 4, 0))}) {
		t.Errorf("%+v", s)
	}
	s = called(t, s, ticksCall(1))
	if !slices.Equal(s.Tasks, []impl.Task{dueNo(3, 9, 50), niceNo(7, 4, 20)}) || s.Missed != 0 {
		t.Errorf("%+v", s)
	}
}

func TestTheEndOfATask(t *testing.T) {
	others := []impl.Task{fixedNo(1, 4, 9), fairNo(9, 4)}
	for _, task := range []impl.Task{fixedNo(5, 4, 9), roundNo(5, 4, 3, 2, 9), niceNo(5, 2, 31), dueNo(5, 3, 8), dueNo(5, 0, 0), dueNo(5, 10, 7)} {
		for _, one := range []impl.Task{task, asleep(task), idle(asleep(task)), idle(task)} {
			for cpu := range 3 {
				s := sysOn(3, 8, others[0], onCpu(cpu, one), others[1])
				s.Ghosts = []impl.Ghost{ghostOn(2, 1, 4), ghostOn(0, 1, 10)}
				wantDone(t, s, exitCall(5), func(s *impl.Sys) { s.Tasks = others })
			}
		}
	}
	// the first, the last and the only one
	wantDone(t, sysOn(1, 8, others...), exitCall(1), func(s *impl.Sys) { s.Tasks = others[1:] })
	wantDone(t, sysOn(1, 8, others...), exitCall(9), func(s *impl.Sys) { s.Tasks = others[:1] })
	wantDone(t, sysOn(1, 8, others[0]), exitCall(1), func(s *impl.Sys) { s.Tasks = nil })
	for _, no := range append(noNos(), 1, 5, 15, 95, 1000) {
		wantRefused(t, busySys(), exitCall(no), 2)
		wantRefused(t, bareSys(3), exitCall(no), 2)
	}
}

// A ghost of each end of a ClDue that is not yet due, up to that time, behind
// all others; of one that is due there is none.
func TestGhostsOfTasksThatAreNoMore(t *testing.T) {
	for _, now := range []int{0, 8, 99999, 100000} {
		for count := range 4 {
			for cpu := range 2 {
				for _, due := range []int{now + 1, now + 2, now + 40, 100040, now, max(0, now-1), 0} {
					for _, left := range []int{0, 1, 10} {
						s := sysOn(2, now, fairNo(1, 4), onCpu(cpu, dueNo(5, left, due)), fairNo(9, 4))
						for i := range count {
							s.Ghosts = append(s.Ghosts, impl.Ghost{Cpu: i % 2, S: impl.Share{Q: 1, P: 8 + i}, Until: 3 * i})
						}
						wantDone(t, s, exitCall(5), func(s *impl.Sys) {
							s.Tasks = []impl.Task{fairNo(1, 4), fairNo(9, 4)}
							if due > now {
								s.Ghosts = append(s.Ghosts, impl.Ghost{Cpu: cpu, S: impl.Share{Q: 10, P: 40}, Until: due})
							}
						})
					}
				}
			}
		}
	}
	// asleep and Idle are no reason to be counted less
	for _, task := range []impl.Task{asleep(dueNo(5, 3, 9)), idle(dueNo(5, 3, 9)), idle(asleep(dueNo(5, 3, 9)))} {
		wantDone(t, sysOn(1, 8, task), exitCall(5), func(s *impl.Sys) {
			s.Tasks, s.Ghosts = nil, []impl.Ghost{{S: impl.Share{Q: 10, P: 40}, Until: 9}}
		})
	}
	wantDone(t, busySys(), exitCall(70), func(s *impl.Sys) {
		s.Tasks = without(s.Tasks, 70)
		s.Ghosts = append(s.Ghosts, impl.Ghost{Cpu: 2, S: impl.Share{Q: 1, P: 1}, Until: 17})
	})
}

// haunted has so many ghosts, on two processors, beside one task of each class.
func haunted(count int) impl.Sys {
	s := sysOn(2, 8, fixedNo(3, 4, 9), onCpu(1, impl.Task{No: 5, Class: 1, State: 1, Q: 1, P: 40, Left: 1, Due: 9}), fairNo(9, 4))
	for i := range count {
		s.Ghosts = append(s.Ghosts, impl.Ghost{Cpu: i % 2, S: impl.Share{Q: 1, P: 40}, Until: 20})
	}
	return s
}

func TestAsManyGhostsAsThereMayBe(t *testing.T) {
	for _, count := range []int{10, 11} {
		wantDone(t, haunted(count), exitCall(5), func(s *impl.Sys) {
			s.Tasks = without(s.Tasks, 5)
			s.Ghosts = append(s.Ghosts, impl.Ghost{Cpu: 1, S: impl.Share{Q: 1, P: 40}, Until: 9})
		})
	}
	wantRefused(t, haunted(12), exitCall(5), 4)
	// who leaves no ghost needs no room
	wantDone(t, haunted(12), exitCall(3), func(s *impl.Sys) { s.Tasks = without(s.Tasks, 3) })
	wantDone(t, haunted(12), exitCall(9), func(s *impl.Sys) { s.Tasks = without(s.Tasks, 9) })
	for _, due := range []int{8, 7, 0} {
		s := turned(haunted(12), func(s *impl.Sys) { s.Tasks[1].Due = due })
		wantDone(t, s, exitCall(5), func(s *impl.Sys) { s.Tasks = without(s.Tasks, 5) })
	}
	// ghosts that are over take room up to the next tick
	over := turned(haunted(12), func(s *impl.Sys) { s.Ghosts[0].Until = 8 })
	wantRefused(t, over, exitCall(5), 4)
}

// What a task leaves is counted on, so that nobody may have it a second time.
func TestPartsOfTasksThatAreNoMore(t *testing.T) {
	s := called(t, bareSys(1), dueCall(5, 0, 3, 4), ticksCall(2), exitCall(5))
	wantRefused(t, s, dueCall(6, 0, 1, 2), 4)
	s = called(t, s, dueCall(6, 0, 1, 4), exitCall(6))
	wantRefused(t, s, dueCall(7, 0, 1, 40), 4)
	s = called(t, s, ticksCall(2))
	wantRefused(t, s, dueCall(7, 0, 1, 2), 4)
	s = called(t, s, ticksCall(1))
	wantRefused(t, s, dueCall(7, 0, 4, 5), 4)
	s = called(t, s, dueCall(7, 0, 3, 4))
	if len(s.Ghosts) != 1 || s.Ghosts[0] != (impl.Ghost{S: impl.Share{Q: 1, P: 4}, Until: 6}) {
		t.Errorf("%+v", s)
	}
}

func TestEndsOfWhoOwnsOrWaits(t *testing.T) {
	for _, no := range []int{10, 20, 30, 40, 60, 80, 90} {
		wantRefused(t, busySys(), exitCall(no), 5)
	}
	wantDone(t, busySys(), exitCall(50), func(s *impl.Sys) { s.Tasks = without(s.Tasks, 50) })
	s := called(t, busySys(), unlockCall(80, 4))
	wantDone(t, s, exitCall(80), func(s *impl.Sys) { s.Tasks = without(s.Tasks, 80) })
}

func TestLocksThatAreHad(t *testing.T) {
	for i := range 5 {
		for at, task := range hikers() {
			for cpu := range 2 {
				s := sysOn(2, 8, hikers()...)
				s.Tasks[at].Cpu = cpu
				wantDone(t, s, lockCall(task.No, i), func(s *impl.Sys) { s.Locks[i].Owner = task.No })
				wantRefused(t, s, unlockCall(task.No, i), 5)
				s.Locks[i].Owner = task.No
				wantRefused(t, s, lockCall(task.No, i), 5)
				wantDone(t, s, unlockCall(task.No, i), func(s *impl.Sys) { s.Locks[i].Owner = 0 })
			}
		}
	}
	// one may have several
	s := sysOn(1, 8, fairNo(5, 0))
	for i := range 5 {
		s = called(t, s, lockCall(5, i))
	}
	for i := range 5 {
		if s.Locks[i].Owner != 5 {
			t.Errorf("%v", s.Locks)
		}
		wantRefused(t, s, lockCall(5, i), 5)
	}
}

func TestLocksThatAreWaitedFor(t *testing.T) {
	s := sysOn(2, 8, hikers()...)
	s.Locks = fiveLocks(lockOf(0), lockOf(10))
	var waits []int
	for _, no := range []int{40, 20, 60, 30, 50} {
		waits = append(waits, no)
		want := slices.Clone(waits)
		wantDone(t, s, lockCall(no, 1), func(s *impl.Sys) { s.Locks[1].Waits = want })
		s = called(t, s, lockCall(no, 1))
		for i := range 5 {
			wantRefused(t, s, lockCall(no, i), 5)
		}
	}
	// who has it may have and wait for others
	wantDone(t, s, lockCall(10, 3), func(s *impl.Sys) { s.Locks[3].Owner = 10 })
	wantDone(t, busySys(), lockCall(30, 1), func(s *impl.Sys) { s.Locks[1].Owner = 30 })
	wantDone(t, busySys(), lockCall(70, 4), func(s *impl.Sys) { s.Locks[4].Waits = []int{70} })
}

func TestLocksThatThereAreNot(t *testing.T) {
	for _, i := range noPlaces(5) {
		for _, no := range []int{10, 30, 50, 70, 5, 0, 1001} {
			wantRefused(t, busySys(), lockCall(no, i), 2)
			wantRefused(t, busySys(), unlockCall(no, i), 2)
		}
	}
	for _, no := range append(noNos(), 1, 5, 15, 95, 1000) {
		for i := range 5 {
			wantRefused(t, busySys(), lockCall(no, i), 2)
			wantRefused(t, busySys(), unlockCall(no, i), 2)
			wantRefused(t, bareSys(2), lockCall(no, i), 2)
			wantRefused(t, bareSys(2), unlockCall(no, i), 2)
		}
	}
}

func TestLocksOfSleepersAndOfWhoWaits(t *testing.T) {
	s := sysOn(1, 8, asleep(dueNo(3, 4, 60)), asleep(fixedNo(5, 4, 0)), fairNo(7, 8), fairNo(9, 8))
	s.Locks = fiveLocks(lockOf(3), lockOf(7, 9), lockOf(9), lockOf(5, 7))
	for i := range 5 {
		wantRefused(t, s, lockCall(3, i), 5)
		wantRefused(t, s, unlockCall(3, i), 5)
		wantRefused(t, s, lockCall(5, i), 5)
		wantRefused(t, s, unlockCall(5, i), 5)
		wantRefused(t, s, lockCall(7, i), 5)
		wantRefused(t, s, unlockCall(7, i), 5)
		wantRefused(t, s, lockCall(9, i), 5)
		wantRefused(t, s, unlockCall(9, i), 5)
	}
	s = called(t, s, wakeCall(5), unlockCall(5, 3), unlockCall(7, 1))
	if !sameLocks(s.Locks, fiveLocks(lockOf(3), lockOf(9), lockOf(9), lockOf(7))) {
		t.Errorf("%v", s.Locks)
	}
}

func TestLocksOfAnotherCpu(t *testing.T) {
	cpus := map[int]int{10: 0, 20: 0, 30: 0, 40: 1, 50: 1, 60: 1, 70: 2, 80: 2, 90: 0}
	// with nobody waiting, and all awake
	s := turned(busySys(), func(s *impl.Sys) {
		s.Locks = fiveLocks(lockOf(30), lockOf(0), lockOf(20), lockOf(60), lockOf(80))
		s.Tasks[4].State = 1
	})
	for no, cpu := range cpus {
		for i, owner := range []int{30, 0, 20, 60, 80} {
			switch {
			case owner == 0:
				wantDone(t, s, lockCall(no, i), func(s *impl.Sys) { s.Locks[i].Owner = no })
			case owner == no || cpus[owner] != cpu:
				wantRefused(t, s, lockCall(no, i), 5)
			default:
				wantDone(t, s, lockCall(no, i), func(s *impl.Sys) { s.Locks[i].Waits = []int{no} })
			}
			if owner != no {
				wantRefused(t, s, unlockCall(no, i), 5)
			}
		}
	}
}

func TestLocksThatMakeACycle(t *testing.T) {
	for length := 2; length <= 5; length++ {
		s := sysOn(1, 8, hikers()...)
		// each of them waits for the one ahead of it, and the first one for none
		for i := range length {
			s = called(t, s, lockCall(10+10*i, i))
		}
		for i := 1; i < length; i++ {
			s = called(t, s, lockCall(10+10*i, i-1))
		}
		for i := 1; i < length; i++ {
			wantRefused(t, s, lockCall(10, i), 6)
		}
		// with the owner of it a cycle would be no more than CoState
		wantRefused(t, s, lockCall(10, 0), 5)
		if length < 5 {
			wantDone(t, s, lockCall(10, length), func(s *impl.Sys) { s.Locks[length].Owner = 10 })
		}
		// others may wait for anybody
		for i := range length {
			wantDone(t, s, lockCall(60, i), func(s *impl.Sys) { s.Locks[i].Waits = append(s.Locks[i].Waits, 60) })
		}
	}
}

// A lock goes to the best of those that wait, whenever that one came, and the
// others wait on in their order.
func TestLocksThatAreHandedOn(t *testing.T) {
	s := sysOn(1, 8, append(hikers(), fairNo(70, 99))...)
	for _, waits := range [][]int{{10, 20, 30, 40, 50, 60}, {60, 50, 40, 30, 20, 10}, {40, 10, 60, 20, 30, 50}} {
		s.Locks = fiveLocks(lockOf(0), lockOf(0), lockOf(70, waits...))
		owner, left := 70, slices.Clone(waits)
		for _, best := range []int{30, 60, 50, 20, 40, 10} {
			left = slices.DeleteFunc(slices.Clone(left), func(no int) bool { return no == best })
			wantDone(t, s, unlockCall(owner, 2), func(s *impl.Sys) { s.Locks[2] = lockOf(best, left...) })
			for _, no := range left {
				wantRefused(t, s, unlockCall(no, 2), 5)
			}
			s = called(t, s, unlockCall(owner, 2))
			wantRefused(t, s, unlockCall(owner, 2), 5)
			owner = best
		}
		wantDone(t, s, unlockCall(10, 2), func(s *impl.Sys) { s.Locks[2] = lockOf(0) })
	}
	// neither sleep nor what is left is asked for, only who is before whom
	s = sysOn(1, 8, fairNo(1, 5), idle(asleep(dueNo(3, 0, 60))), dueNo(5, 4, 61), fixedNo(7, 20, 0))
	s.Locks = fiveLocks(lockOf(1, 7, 5, 3))
	wantDone(t, s, unlockCall(1, 0), func(s *impl.Sys) { s.Locks[0] = lockOf(3, 7, 5) })
	// what others wait for elsewhere stays
	wantDone(t, busySys(), unlockCall(30, 0), func(s *impl.Sys) { s.Locks[0] = lockOf(10, 20) })
	wantDone(t, busySys(), unlockCall(60, 3), func(s *impl.Sys) { s.Locks[3] = lockOf(40) })
	wantDone(t, busySys(), unlockCall(80, 4), func(s *impl.Sys) { s.Locks[4] = lockOf(0) })
	wantRefused(t, busySys(), unlockCall(20, 2), 5)
	wantRefused(t, busySys(), unlockCall(30, 1), 5)
}

func TestNewNices(t *testing.T) {
	for _, task := range []impl.Task{niceNo(5, 0, 31), niceNo(5, 4, 0), idle(asleep(niceNo(5, -4, mostV)))} {
		for cpu := range 2 {
			s := sysOn(2, 8, fairNo(1, 4), onCpu(cpu, task), fairNo(9, 4))
			s.Locks, s.Floors = fiveLocks(lockOf(5)), []int{40, 50}
			for nice := -4; nice <= 4; nice++ {
				wantDone(t, s, niceCall(5, nice), func(s *impl.Sys) { s.Tasks[1].Nice = nice })
			}
			for _, nice := range noNices() {
				wantRefused(t, s, niceCall(5, nice), 1)
			}
		}
	}
	// who waits may be made nicer, too
	wantDone(t, busySys(), niceCall(40, 3), func(s *impl.Sys) { s.Tasks[3].Nice = 3 })
	for _, no := range []int{10, 20, 50, 60, 70, 90} {
		for _, nice := range append(noNices(), 0, 1, 4) {
			wantRefused(t, busySys(), niceCall(no, nice), 5)
		}
	}
	for _, no := range append(noNos(), 1, 5, 15, 95, 1000) {
		for _, nice := range []int{0, 1, -4, 5, 9} {
			wantRefused(t, busySys(), niceCall(no, nice), 2)
		}
	}
}

// What is above the old floor is as far above the new one.
func TestMovesByTheFloorsOfBoth(t *testing.T) {
	floors := []int{30, 500, 0, mostV - 5}
	for from, old := range floors {
		for to, floor := range floors {
			for _, v := range []int{0, 29, 30, 35, 36, 499, 505, 506, mostV} {
				for _, task := range []impl.Task{niceNo(5, 2, v), idle(asleep(niceNo(5, -1, v)))} {
					s := sysOn(4, 8, fairNo(1, 4), onCpu(from, task), fixedNo(9, 4, 0))
					s.Floors = slices.Clone(floors)
					wantDone(t, s, moveCall(5, to), func(s *impl.Sys) {
						// where V would not be right it stays where it is
						if next := floor + max(0, v-old); next <= mostV {
							s.Tasks[1].Cpu, s.Tasks[1].V = to, next
						}
					})
				}
			}
		}
	}
	wantDone(t, called(t, busySys(), unlockCall(80, 4)), moveCall(80, 0), func(s *impl.Sys) { s.Tasks[7].Cpu, s.Tasks[7].V = 0, 30 })
}

func TestMovesToEachCpu(t *testing.T) {
	for cpus := 1; cpus <= 4; cpus++ {
		s := sysOn(cpus, 8, fairNo(5, 7))
		for cpu := range cpus {
			wantDone(t, s, moveCall(5, cpu), func(s *impl.Sys) { s.Tasks[0].Cpu = cpu })
		}
		for _, cpu := range append(wrongCpus(), 1, 2, 3) {
			if !between(cpu, 0, cpus-1) {
				wantRefused(t, s, moveCall(5, cpu), 1)
			}
		}
	}
	for _, cpu := range append(wrongCpus(), 0, 1, 2, 3) {
		for _, no := range []int{10, 20, 50, 60, 70, 90} {
			wantRefused(t, busySys(), moveCall(no, cpu), 5)
		}
		// each of these owns, or waits
		for _, no := range []int{30, 40, 80} {
			wantRefused(t, busySys(), moveCall(no, cpu), 5)
		}
		for _, no := range append(noNos(), 1, 5, 15, 95, 1000) {
			wantRefused(t, busySys(), moveCall(no, cpu), 2)
		}
	}
}

func TestTicksByCalls(t *testing.T) {
	for _, s := range rightSystems() {
		s = turned(s, func(s *impl.Sys) { s.Now, s.Seq, s.Trace = 50, 0, nil })
		for _, times := range []int{1, 2, 3, 49, 50} {
			want, _ := ticksByWord(s, times)
			wantCalling(t, s, ticksCall(times), want, 0)
			if want.Now != 50+times || len(want.Trace) != times*s.Cpus {
				t.Errorf("%d ticks lead to %+v", times, want)
			}
		}
		for _, times := range []int{0, -1, -50, 51, 52, 100, 1 << 32, 1<<32 + 1, math.MinInt, math.MinInt + 1, math.MaxInt} {
			wantRefused(t, s, ticksCall(times), 1)
		}
	}
}

// Ticks of which only a part can be done are not done at all.
func TestTicksThatCanOnlyBeDoneInPart(t *testing.T) {
	for _, times := range []int{1, 2, 7, 50} {
		for cpus := 1; cpus <= 4; cpus++ {
			s := sysOn(cpus, 0, roundNo(3, 4, 1, 1, 0), dueNo(5, 4, 5))
			s.Ghosts, s.Floors[0] = ghosts(0, impl.Share{Q: 1, P: 4}, impl.Share{Q: 1, P: 5}), 7
			for _, change := range []func(s *impl.Sys, less int){
				func(s *impl.Sys, less int) { s.Now = 100000 - times + less },
				func(s *impl.Sys, less int) { s.Trace = make([]impl.Turn, 400-cpus*times+less) },
				// 3 has what 5 leaves of the turns, and goes behind with each
				func(s *impl.Sys, less int) {
					s.Tasks = s.Tasks[:1]
					s.Seq = 900000 - times + 1 + less
				},
			} {
				just := turned(s, func(s *impl.Sys) { change(s, 0) })
				want, did := ticksByWord(just, times)
				if did != times {
					t.Fatalf("%d of %d", did, times)
				}
				wantCalling(t, just, ticksCall(times), want, 0)
				wantRefused(t, turned(s, func(s *impl.Sys) { change(s, 1) }), ticksCall(times), 4)
			}
		}
	}
	for _, times := range []int{1, 2, 50} {
		wantRefused(t, fullSys(), ticksCall(times), 4)
	}
}

// Of each two codes of a Kind that apply at once the one that is named first.
func TestWhichCodeComesFirst(t *testing.T) {
	packed := turned(crowd(12), func(s *impl.Sys) {
		s.Tasks[0] = impl.Task{No: 10, Class: 1, State: 1, Q: 1, P: 1, Left: 1, Due: 5}
		s.Seq = 900001
	})
	last := turned(packed, func(s *impl.Sys) { s.Seq = 1000000 })
	tied := turned(haunted(12), func(s *impl.Sys) { s.Locks = fiveLocks(lockOf(5), lockOf(9, 3)) })
	rests := sysOn(1, 8, asleep(fixedNo(3, 4, 0)), fairNo(5, 0), fairNo(7, 0), fairNo(9, 0))
	// 5 waits for 3, which sleeps; 7 waits for 9, which waits for 5
	rests.Locks = fiveLocks(lockOf(3, 5), lockOf(5, 9), lockOf(9, 7), lockOf(7))
	for _, row := range []struct {
		s    impl.Sys
		c    impl.Call
		code int
	}{
		// CoBad ahead of CoKnown and of CoFull, of which all three would apply
		{packed, dueCall(10, 2, 1, 2), 1}, {packed, dueCall(10, -1, 1, 2), 1}, {packed, dueCall(10, 0, 2, 1), 1}, {packed, dueCall(5, 0, 2, 1), 1},
		{packed, fixedCall(10, 2, 4, 2), 1}, {packed, fixedCall(10, 0, 21, 2), 1}, {packed, fixedCall(5, 0, 4, 11), 1}, {packed, fixedCall(5, -1, 4, 2), 1},
		{packed, fairCall(10, 2, 0), 1}, {packed, fairCall(10, 0, 5), 1}, {packed, fairCall(5, 0, -5), 1}, {packed, fairCall(0, 0, 0), 1},
		{last, fixedCall(10, 0, 4, 2), 1}, {last, fixedCall(5, 0, 4, 2), 1},
		{turned(crowd(3), func(s *impl.Sys) { s.Seq = 1000000 }), fixedCall(10, 0, 4, 2), 1},
		{turned(crowd(3), func(s *impl.Sys) { s.Seq = 1000000 }), fixedCall(5, 0, 4, 2), 1},
		{turned(crowd(3), func(s *impl.Sys) { s.Seq = 900001 }), fixedCall(5, 0, 0, 2), 1},
		{turned(crowd(3), func(s *impl.Sys) { s.Ghosts = ghosts(0, impl.Share{Q: 1, P: 1}) }), dueCall(5, 0, 3, 2), 1},
		{turned(crowd(3), func(s *impl.Sys) { s.Ghosts = ghosts(0, impl.Share{Q: 1, P: 1}) }), dueCall(10, 0, 1, 41), 1},
		// CoKnown ahead of CoFull
		{packed, dueCall(10, 0, 1, 2), 3}, {packed, dueCall(20, 0, 1, 2), 3}, {packed, dueCall(20, 1, 1, 2), 3},
		{packed, fixedCall(10, 0, 4, 2), 3}, {packed, fixedCall(120, 1, 4, 2), 3}, {packed, fairCall(10, 0, 0), 3},
		{turned(crowd(3), func(s *impl.Sys) { s.Seq = 900001 }), fixedCall(10, 0, 4, 2), 3},
		{turned(crowd(3), func(s *impl.Sys) { s.Ghosts = ghosts(0, impl.Share{Q: 1, P: 1}) }), dueCall(10, 0, 1, 40), 3},
		// CoFull for either reason and for both
		{packed, dueCall(5, 0, 1, 2), 4}, {packed, dueCall(5, 1, 1, 2), 4}, {packed, fixedCall(5, 0, 4, 2), 4}, {packed, fairCall(5, 0, 0), 4},
		// CoState ahead of CoFull of CaExit
		{tied, exitCall(5), 5}, {tied, exitCall(9), 5}, {tied, exitCall(3), 5}, {haunted(12), exitCall(5), 4},
		// CoNone of a lock ahead of CoState, which is of the task
		{rests, lockCall(3, 5), 2}, {rests, lockCall(5, -1), 2}, {rests, unlockCall(3, 5), 2}, {rests, unlockCall(5, -1), 2}, {rests, lockCall(4, 5), 2},
		// CoState ahead of CoCycle
		{rests, lockCall(3, 1), 5}, {rests, lockCall(3, 2), 5}, {rests, lockCall(5, 2), 5}, {rests, lockCall(5, 3), 5}, {rests, lockCall(9, 3), 5}, {rests, lockCall(3, 0), 5},
		{called(t, rests, wakeCall(3)), lockCall(3, 1), 6}, {called(t, rests, wakeCall(3)), lockCall(3, 3), 6}, {called(t, rests, wakeCall(3)), lockCall(3, 0), 5},
		// CoNone ahead of CoBad, and CoState, too
		{busySys(), niceCall(5, 9), 2}, {busySys(), niceCall(10, 9), 5}, {busySys(), niceCall(80, 9), 1},
		{busySys(), moveCall(5, 3), 2}, {busySys(), moveCall(5, -1), 2}, {busySys(), moveCall(10, 3), 5}, {busySys(), moveCall(80, 3), 5},
		{busySys(), moveCall(40, -1), 5}, {crowd(3), moveCall(10, 2), 1}, {crowd(3), moveCall(10, -1), 1},
		// CoBad ahead of CoFull of CaTicks
		{fullSys(), ticksCall(0), 1}, {fullSys(), ticksCall(51), 1}, {fullSys(), ticksCall(1), 4},
	} {
		if !sysOkByWord(row.s) {
			t.Fatalf("not right: %+v", row.s)
		}
		wantRefused(t, row.s, row.c, row.code)
		if _, code := callByWord(row.s, row.c); code != row.code {
			t.Errorf("%+v is %d by word", row.c, code)
		}
	}
}

// A call that is not CallOk is nothing, whatever its Kind's own codes say.
func TestCallsThatAreNotOk(t *testing.T) {
	for _, c := range callsThatAreNotOk() {
		for _, s := range append(rightSystems(), impl.Sys{}, impl.Sys{Cpus: 1}) {
			wantNothingCalled(t, s, c)
		}
		wantRun(t, busySys(), []impl.Call{c}, busySys(), 1)
		wantRun(t, busySys(), []impl.Call{sleepCall(30), c, wakeCall(30)}, busySys(), 0, 1, 0)
	}
}

func TestCallsOfWrongSystems(t *testing.T) {
	calls := append(callsThatAreOk(), callsThatAreNotOk()[:9]...)
	for at, s := range wrongSystems() {
		if sysOkByWord(s) {
			t.Fatalf("it is right: %+v", s)
		}
		for i, c := range calls {
			// of each system some, of all systems all
			if i < 11 || (at+i)%5 == 0 {
				wantNothingCalled(t, s, c)
			}
		}
		wantRun(t, s, nil, s)
		wantRun(t, s, []impl.Call{}, s)
		wantRun(t, s, []impl.Call{ticksCall(1)}, s)
		wantRun(t, s, calls, s)
		wantRun(t, s, make([]impl.Call, 151), s)
	}
}

func TestCallsOfSystemsWithoutAnything(t *testing.T) {
	empty := impl.Sys{Tasks: []impl.Task{}, Locks: []impl.Lock{}, Ghosts: []impl.Ghost{}, Floors: []int{}, Trace: []impl.Turn{}}
	for _, s := range []impl.Sys{{}, empty} {
		wantNothingCalled(t, s, impl.Call{})
		for _, c := range callsThatAreOk() {
			wantNothingCalled(t, s, c)
		}
		wantRun(t, s, nil, s)
	}
	bare := impl.Sys{Cpus: 1, Tasks: []impl.Task{}, Locks: freeLocks(5), Ghosts: []impl.Ghost{}, Floors: []int{0}, Trace: []impl.Turn{}}
	wantDone(t, bare, fairCall(1, 0, 0), func(s *impl.Sys) { s.Tasks = []impl.Task{fairNo(1, 0)} })
	wantRefused(t, bare, sleepCall(1), 2)
	wantNothingCalled(t, bare, impl.Call{})
}

func TestCallsAtTheEndsOfInt(t *testing.T) {
	for _, s := range rightSystems() {
		for kind := 0; kind <= 12; kind++ {
			for _, end := range []int{math.MinInt, math.MinInt + 1, math.MaxInt - 1, math.MaxInt} {
				for _, c := range []impl.Call{{Kind: kind, No: end}, {Kind: kind, No: end, A: end}, {Kind: kind, No: end, Cpu: end}, {Kind: kind, A: end},
					{Kind: kind, No: end, Cpu: end, A: end, B: end}, {Kind: kind, No: 10, Cpu: end}, {Kind: kind, No: 10, A: end}, {Kind: kind, No: 5, A: 1, B: end},
					{Kind: kind, No: 5, A: end, B: 1}, {Kind: kind, No: 5, Cpu: end, A: 1, B: 2}} {
					want, code := callByWord(s, c)
					if code == 0 {
						t.Fatalf("%+v is done", c)
					}
					wantCalling(t, s, c, want, code)
				}
			}
		}
	}
}

func TestRunsOfNoneAndOfOne(t *testing.T) {
	for _, s := range rightSystems() {
		wantRun(t, s, nil, s)
		wantRun(t, s, []impl.Call{}, s)
		for _, c := range append(callsThatAreOk(), callsThatAreNotOk()...) {
			want, code := callByWord(s, c)
			if code != 0 {
				want = s
			}
			wantRun(t, s, []impl.Call{c}, want, code)
		}
	}
}

func TestARunOfManyCalls(t *testing.T) {
	calls := []impl.Call{
		fairCall(3, 0, 0), fairCall(3, 0, 0), {Kind: 12}, dueCall(5, 0, 1, 4), dueCall(6, 0, 4, 5), lockCall(3, 0), lockCall(5, 0), sleepCall(5),
		ticksCall(2), exitCall(3), ticksCall(0), unlockCall(3, 0), moveCall(3, 1), moveCall(3, 2), unlockCall(5, 0), exitCall(5), {Kind: 4, No: 3, A: 1},
		niceCall(3, -4), fixedCall(7, 1, 2, 0), sleepCall(9), wakeCall(7), ticksCall(1),
	}
	codes := []int{0, 3, 1, 0, 4, 0, 0, 5, 0, 5, 1, 0, 0, 1, 0, 0, 1, 0, 0, 2, 5, 0}
	want := bareSys(2)
	want.Now, want.Seq = 3, 1
	want.Tasks = []impl.Task{{No: 3, Class: 3, Cpu: 1, State: 1, Nice: -4, V: 8}, {No: 7, Class: 2, Cpu: 1, State: 1, Prio: 2, Seq: 1}}
	want.Ghosts = []impl.Ghost{{S: impl.Share{Q: 1, P: 4}, Until: 4}}
	want.Floors = []int{0, 8}
	want.Trace = []impl.Turn{turnOf(0, 5, 3), turnOf(1, 0, 0), turnOf(0, 3, 3), turnOf(1, 0, 0), turnOf(0, 0, 0), turnOf(1, 7, 7)}
	wantRun(t, bareSys(2), calls, want, codes...)
	// one run of all is as runs of one each
	s := bareSys(2)
	for i, c := range calls {
		next, did := impl.SysRun(s, []impl.Call{c})
		if !slices.Equal(did, codes[i:i+1]) {
			t.Errorf("%+v is %v", c, did)
		}
		s = next
	}
	if !sameSys(s, want) {
		t.Errorf("%+v", s)
	}
}

func TestAsManyCallsAsARunMayHave(t *testing.T) {
	s := sysOn(1, 8, fairNo(5, 3))
	var calls []impl.Call
	var codes []int
	for range 75 {
		calls, codes = append(calls, sleepCall(5), wakeCall(5)), append(codes, 0, 0)
	}
	wantRun(t, s, calls[:149], turned(s, func(s *impl.Sys) { s.Tasks[0].State = 2 }), codes[:149]...)
	wantRun(t, s, calls, s, codes...)
	// one more is too many, whatever they are
	more := append(slices.Clone(calls), sleepCall(5))
	wantRun(t, s, more, s)
	for _, count := range []int{151, 152, 300, 20000} {
		wantRun(t, s, make([]impl.Call, count), s)
		wantRun(t, s, slices.Repeat([]impl.Call{ticksCall(1)}, count), s)
		wantRun(t, impl.Sys{}, slices.Repeat([]impl.Call{ticksCall(1)}, count), impl.Sys{})
	}
	wantRun(t, s, make([]impl.Call, 150), s, slices.Repeat([]int{1}, 150)...)
}

// anyCall asks for something that the system has, more often than not.
func (n *numbers) anyCall(s impl.Sys) impl.Call {
	no := 1 + n.below(1000)
	if len(s.Tasks) > 0 && n.below(12) > 0 {
		no = s.Tasks[n.below(len(s.Tasks))].No
	}
	fresh := n.oneOf(1+n.below(1000), 1+n.below(1000), 1+n.below(1000), no)
	cpu, lock := n.below(s.Cpus+1)-n.below(8)/7, n.below(6)-n.below(8)/7
	switch n.below(18) {
	case 0:
		return dueCall(fresh, cpu, n.below(5), n.below(42))
	case 1:
		return fixedCall(fresh, cpu, n.below(22), n.below(12))
	case 2:
		return fairCall(fresh, cpu, n.below(10)-4)
	case 3, 4:
		return sleepCall(no)
	case 5, 6:
		return wakeCall(no)
	case 7:
		return exitCall(no)
	case 8, 9, 10, 11:
		return lockCall(no, lock)
	case 12, 13:
		if owner := s.Locks[max(0, min(lock, 4))].Owner; owner != 0 && n.below(2) == 0 {
			no = owner
		}
		return unlockCall(no, lock)
	case 14:
		return niceCall(no, n.below(12)-5)
	case 15:
		return moveCall(no, cpu)
	case 16:
		return ticksCall(n.oneOf(0, 1, 1, 1, 2, 3, 51))
	}
	return impl.Call{Kind: n.below(14), No: n.below(3), Cpu: n.below(2), A: n.below(3), B: n.below(2)}
}

type tally [12][7]int

func (y *tally) wantEach(t *testing.T, least int) {
	t.Helper()
	codes := []string{"", "0134", "0134", "0134", "025", "025", "0245", "0256", "025", "0125", "0125", "014"}
	for kind, list := range codes {
		for _, code := range list {
			if got := y[kind][code-'0']; got < least {
				t.Errorf("too few to tell: %d of Kind %d are %c", got, kind, code)
			}
		}
	}
}

func TestManyCallsByWord(t *testing.T) {
	var n numbers
	var seen tally
	nothing := 0
	for range 40000 {
		s := n.lively()
		switch n.below(12) {
		case 0:
			n.worsen(&s)
		case 1, 2:
			s.Ghosts = haunted(12).Ghosts
		}
		c := n.anyCall(n.okOr(s))
		want, code := callByWord(s, c)
		wantCalling(t, s, c, want, code)
		if want.Cpus == 0 {
			nothing++
		} else {
			seen[c.Kind][code]++
		}
	}
	seen.wantEach(t, 10)
	if nothing < 2000 {
		t.Errorf("too few to tell: %d nothing", nothing)
	}
}

// okOr is the system, if it is right, and a new one else.
func (n *numbers) okOr(s impl.Sys) impl.Sys {
	if sysOkByWord(s) {
		return s
	}
	return bareSys(4)
}

// Promise 11: what is refused changes nothing; what is done leaves a system that
// is right.
func TestWhatIsRefusedChangesNothing(t *testing.T) {
	var n numbers
	var seen tally
	for run := range 300 {
		s := bareSys(1 + run%4)
		switch run % 5 {
		case 0:
			s.Now = 99990
		case 1:
			s = haunted(12)
		}
		for range 150 {
			c := n.anyCall(s)
			given, asItWas := roomySys(s)
			next, code := impl.SysCall(given, c)
			switch {
			case !asItWas():
				t.Fatalf("%+v wrote into %+v", c, s)
			case code == 0 && !impl.SysOk(next):
				t.Fatalf("%+v of %+v leaves %+v", c, s, next)
			case code != 0 && impl.CallOk(c) && !sameSys(next, s):
				t.Fatalf("%+v, which is refused with %d, makes %+v of %+v", c, code, next, s)
			case code != 0 && !impl.CallOk(c) && (code != 1 || !sameSys(next, impl.Sys{})):
				t.Fatalf("%+v is %d, and leaves %+v", c, code, next)
			}
			want, wantCode := callByWord(s, c)
			if code != wantCode || !sameSys(next, want) {
				t.Fatalf("%+v of %+v\nis %d, and leaves %+v;\nwant %d, and %+v", c, s, code, next, wantCode, want)
			}
			if impl.CallOk(c) {
				seen[c.Kind][code]++
			}
			if code == 0 {
				s = next
			}
		}
	}
	seen.wantEach(t, 3)
}

// A run tells what its calls tell, one behind the other.
func TestManyRunsByWord(t *testing.T) {
	var n numbers
	for run := range 150 {
		s := bareSys(1 + run%4)
		if run%3 == 0 {
			s = n.okOr(n.lively())
		}
		var calls []impl.Call
		last := s
		for range n.below(151) {
			c := n.anyCall(last)
			if next, code := callByWord(last, c); code == 0 {
				last = next
			}
			calls = append(calls, c)
		}
		want, codes := runByWord(s, calls)
		if !sameSys(want, last) || !sysOkByWord(want) || len(codes) != len(calls) {
			t.Fatalf("%+v and %+v", want, last)
		}
		wantRun(t, s, calls, want, codes...)
		// cut in two anywhere it is the same
		cut := n.below(len(calls) + 1)
		half, first := impl.SysRun(s, calls[:cut])
		got, second := impl.SysRun(half, calls[cut:])
		if !sameSys(got, want) || !slices.Equal(append(first, second...), codes) {
			t.Fatalf("cut at %d: %+v, %v and %v", cut, got, first, second)
		}
	}
}

// What is refused is no call at all: a run without it leads to the same.
func TestRunsWithoutWhatIsRefused(t *testing.T) {
	var n numbers
	for run := range 100 {
		s := bareSys(1 + run%4)
		var calls []impl.Call
		last := s
		for range 150 {
			c := n.anyCall(last)
			if next, code := impl.SysCall(last, c); code == 0 {
				last = next
			}
			calls = append(calls, c)
		}
		got, codes := impl.SysRun(s, calls)
		var done []impl.Call
		for i, code := range codes {
			if code == 0 {
				done = append(done, calls[i])
			}
		}
		wantRun(t, s, done, got, make([]int, len(done))...)
	}
}

// Two answers, to one question or to two, have nothing in common, whether it was
// done or not.
func TestCallsAreApart(t *testing.T) {
	for _, c := range append(callsThatAreOk(), ticksCall(51), niceCall(80, 9), lockCall(30, 2), fairCall(10, 0, 0)) {
		s := busySys()
		one, _ := impl.SysCall(s, c)
		two, code := impl.SysCall(s, c)
		want := copySys(two)
		three, _ := impl.SysCall(two, c)
		wantThree := copySys(three)
		wantSysOfItsOwn(t, "SysCall", one, func() bool { return sameSys(s, busySys()) && sameSys(two, want) && sameSys(three, wantThree) })
		wantSysOfItsOwn(t, "SysCall", three, func() bool { return sameSys(s, busySys()) && sameSys(two, want) })
		run, codes := impl.SysRun(s, []impl.Call{c, c})
		again, more := impl.SysRun(s, []impl.Call{c, c})
		wantAgain := copySys(again)
		if codes[0] != code || !slices.Equal(codes, more) {
			t.Errorf("%+v is %v", c, codes)
		}
		codes[0], codes[1] = -1, -1
		if codes = append(codes, -2); slices.Contains(more, -1) {
			t.Errorf("codes of two runs share memory: %v and %v", codes, more)
		}
		wantSysOfItsOwn(t, "SysRun", run, func() bool { return sameSys(s, busySys()) && sameSys(again, wantAgain) })
	}
}

// Lists of one system that lie in one piece of memory come back apart.
func TestCallsOfListsThatShareMemory(t *testing.T) {
	room := []int{10, 20, 30, 40, 50, 60}
	s := impl.Sys{Cpus: 1, Tasks: hikers(), Locks: freeLocks(5), Floors: room[:1]}
	s.Locks[0] = impl.Lock{Owner: 10, Waits: room[1:3]}
	s.Locks[1] = impl.Lock{Owner: 20, Waits: room[3:6]}
	asItWas := func() bool {
		return slices.Equal(room, []int{10, 20, 30, 40, 50, 60}) && slices.Equal(s.Tasks, hikers())
	}
	for _, c := range []impl.Call{
		unlockCall(10, 0), lockCall(10, 2), lockCall(10, 1), lockCall(10, 0), unlockCall(20, 1), sleepCall(10), sleepCall(20), wakeCall(10), exitCall(10),
		niceCall(10, 2), niceCall(10, 9), niceCall(20, 2), moveCall(10, 0), fairCall(5, 0, 1), fixedCall(5, 0, 1, 1), dueCall(5, 0, 1, 2), dueCall(5, 0, 1, 1),
		fairCall(10, 0, 1), exitCall(5), ticksCall(2), ticksCall(51), {Kind: 12},
	} {
		want, code := callByWord(s, c)
		got, did := impl.SysCall(s, c)
		if did != code || !sameSys(got, want) {
			t.Errorf("%+v is %d, and leaves %+v", c, did, got)
		}
		wantSysOfItsOwn(t, "SysCall", got, asItWas)
		if code != 0 {
			want = s
		}
		got, codes := impl.SysRun(s, []impl.Call{c})
		if !slices.Equal(codes, []int{code}) || !sameSys(got, want) {
			t.Errorf("%+v is %d, and leaves %+v", c, codes, got)
		}
		wantSysOfItsOwn(t, "SysRun", got, asItWas)
	}
	// as wrong ones, and without a call, too
	none, _ := impl.SysRun(s, nil)
	wantSysOfItsOwn(t, "SysRun", none, asItWas)
	s.Now = -1
	wrong, _ := impl.SysRun(s, []impl.Call{ticksCall(1)})
	if !sameSys(wrong, s) {
		t.Errorf("%+v", wrong)
	}
	wantSysOfItsOwn(t, "SysRun", wrong, asItWas)
}

func TestCallsKeepNothing(t *testing.T) {
	for range 3 {
		wantDone(t, busySys(), sleepCall(30), func(s *impl.Sys) { s.Tasks[2].State = 2 })
		wantRefused(t, busySys(), sleepCall(50), 5)
		wantNothingCalled(t, busySys(), impl.Call{})
		wantNothingCalled(t, impl.Sys{}, sleepCall(30))
		wantRefused(t, busySys(), lockCall(5, 0), 2)
		wantRun(t, busySys(), []impl.Call{sleepCall(30), sleepCall(30), wakeCall(30)}, busySys(), 0, 5, 0)
		wantRun(t, impl.Sys{}, []impl.Call{sleepCall(30)}, impl.Sys{})
		if impl.CallOk(impl.Call{}) || !impl.CallOk(sleepCall(0)) {
			t.Error("CallOk")
		}
	}
}
