package tests

import (
	"math"
	"slices"
	"sync"
	"testing"

	"loop.example/g00185/impl"
)

// verdict is what the six tell of one system.
type verdict struct{ turns, due, fair, best, alone, all bool }

var allHold = verdict{true, true, true, true, true, true}

func judged(s impl.Sys) verdict {
	return verdict{impl.JudgeTurns(s), impl.JudgeDue(s), impl.JudgeFair(s), impl.JudgeBest(s), impl.JudgeAlone(s), impl.JudgeAll(s)}
}

func wantJudged(t *testing.T, s impl.Sys, want verdict) {
	t.Helper()
	given, asItWas := roomySys(s)
	if got := judged(given); got != want {
		t.Errorf("judged(%+v)\n= %+v;\nwant %+v", s, got, want)
	}
	if !asItWas() {
		t.Errorf("a judge of %+v wrote into it", s)
	}
}

// wantAll asks for all six of a system that must be right.
func wantAll(t *testing.T, s impl.Sys) {
	t.Helper()
	if !sysOkByWord(s) {
		t.Fatalf("not right: %+v", s)
	}
	wantJudged(t, s, allHold)
}

// wantNone is of a system that is not SysOk.
func wantNone(t *testing.T, s impl.Sys) {
	t.Helper()
	if sysOkByWord(s) {
		t.Fatalf("it is right: %+v", s)
	}
	wantJudged(t, s, verdict{})
}

// Each of these has one judge say no to a right system, and thereby JudgeAll.
func wantOnlyTurns(t *testing.T, s impl.Sys, holds bool) {
	t.Helper()
	wantJudged(t, s, verdict{holds, true, true, true, true, holds})
}

func wantOnlyDue(t *testing.T, s impl.Sys, holds bool) {
	t.Helper()
	wantJudged(t, s, verdict{true, holds, true, true, true, holds})
}

func wantOnlyFair(t *testing.T, s impl.Sys, holds bool) {
	t.Helper()
	wantJudged(t, s, verdict{true, true, holds, true, true, holds})
}

// The functions named ByWord are the chapter's words once more.
func turnsByWord(s impl.Sys) bool {
	rest := s.Trace
	for len(rest) > 0 {
		for cpu := range s.Cpus {
			if len(rest) == 0 || rest[0].Cpu != cpu {
				return false
			}
			if turn := rest[0]; turn.Context == 0 && turn.Executor != 0 || turn.Context != 0 && turn.Executor == 0 {
				return false
			}
			rest = rest[1:]
		}
	}
	return true
}

func nearFloorsByWord(s impl.Sys) bool {
	for _, task := range s.Tasks {
		if task.Class != 3 || task.Idle {
			continue
		}
		if above := task.V - s.Floors[task.Cpu]; above < 0 || above > 48 {
			return false
		}
	}
	return true
}

func bestTurnsByWord(s impl.Sys) bool {
	for cpu := range s.Cpus {
		context, _ := impl.Pick(s.Tasks, s.Locks, cpu)
		told, somebody := taskByWord(s.Tasks, context)
		for _, task := range s.Tasks {
			if task.Cpu == cpu && canTurnByWord(s.Tasks, s.Locks, task.No) && (!somebody || beforeByWord(task, told)) {
				return false
			}
		}
	}
	return true
}

func aloneByWord(s impl.Sys) bool {
	for one := range s.Cpus {
		for two := range one {
			_, taker := impl.Pick(s.Tasks, s.Locks, one)
			_, other := impl.Pick(s.Tasks, s.Locks, two)
			if taker != 0 && taker == other {
				return false
			}
		}
	}
	return true
}

func judgedByWord(s impl.Sys) verdict {
	if !sysOkByWord(s) {
		return verdict{}
	}
	v := verdict{turns: turnsByWord(s), due: s.Missed == 0, fair: nearFloorsByWord(s), best: bestTurnsByWord(s), alone: aloneByWord(s)}
	v.all = v.turns && v.due && v.fair && v.best && v.alone
	return v
}

// steady is busySys with no deadline missed: all five hold.
func steady() impl.Sys { return turned(busySys(), func(s *impl.Sys) { s.Missed = 0 }) }

// traceOf has the turns of so many ticks, some of them nobody's.
func traceOf(cpus int, ticks int) []impl.Turn {
	var trace []impl.Turn
	for i := range cpus * ticks {
		trace = append(trace, turnOf(i%cpus, i%5*7, i%5*9))
	}
	return trace
}

func TestJudgesOfNewSystems(t *testing.T) {
	for cpus := 1; cpus <= 4; cpus++ {
		s, _ := impl.SysNew(cpus)
		wantAll(t, s)
		for range 400 / cpus {
			s = ticked(t, s)
			wantAll(t, s)
		}
	}
}

func TestJudgesOfABusySystem(t *testing.T) {
	wantAll(t, steady())
	wantOnlyDue(t, busySys(), false)
	s := steady()
	for range 30 {
		s = ticked(t, s)
		wantAll(t, s)
	}
	// one that meets every limit has 400 turns of processor 0, and has missed much
	wantJudged(t, fullSys(), judgedByWord(fullSys()))
	if v := judged(fullSys()); v.turns || v.due || !v.best || !v.alone || v.all {
		t.Errorf("%+v", v)
	}
}

func TestJudgesBehindCallsAndTicks(t *testing.T) {
	s := bareSys(2)
	for _, c := range []impl.Call{
		fairCall(3, 0, 0), ticksCall(3), dueCall(5, 0, 1, 4), lockCall(3, 0), lockCall(5, 0), ticksCall(2), fixedCall(7, 0, 2, 3), ticksCall(4),
		sleepCall(3), ticksCall(5), wakeCall(3), ticksCall(1), unlockCall(3, 0), fairCall(9, 1, 4), ticksCall(7), niceCall(9, -4), moveCall(3, 1), ticksCall(2),
		lockCall(9, 1), lockCall(3, 1), sleepCall(9), ticksCall(9), wakeCall(9), ticksCall(1), unlockCall(5, 0), exitCall(5), ticksCall(1), dueCall(5, 1, 3, 4),
		ticksCall(20),
	} {
		s = called(t, s, c)
		wantAll(t, s)
	}
}

func TestTracesThatAreCut(t *testing.T) {
	for cpus := 1; cpus <= 4; cpus++ {
		whole := traceOf(cpus, 6)
		for from := range len(whole) + 1 {
			for to := from; to <= len(whole); to++ {
				s := bareSys(cpus)
				s.Trace = whole[from:to]
				wantOnlyTurns(t, s, from == to || from%cpus == 0 && to%cpus == 0)
			}
		}
		s := bareSys(cpus)
		s.Trace = nil
		wantAll(t, s)
		s.Trace = []impl.Turn{}
		wantAll(t, s)
	}
}

// As many turns as a trace may have, of which three processors have no whole.
func TestTracesThatAreLong(t *testing.T) {
	for cpus := 1; cpus <= 4; cpus++ {
		for count := 394; count <= 400; count++ {
			s := bareSys(cpus)
			s.Trace = traceOf(cpus, 401)[:count]
			wantOnlyTurns(t, s, count%cpus == 0)
		}
		for _, count := range []int{401, 402, 404, 408, 420} {
			s := bareSys(cpus)
			s.Trace = traceOf(cpus, 420)[:count]
			wantNone(t, s)
		}
	}
}

// The turns of one number of processors are not those of another one.
func TestTracesOfOtherProcessors(t *testing.T) {
	for cpus := 1; cpus <= 4; cpus++ {
		for others := 1; others <= 4; others++ {
			s := bareSys(cpus)
			s.Trace = traceOf(others, 12)
			wantOnlyTurns(t, s, cpus == others)
		}
	}
}

func TestTurnsOfAnotherCpu(t *testing.T) {
	for cpus := 1; cpus <= 4; cpus++ {
		whole := bareSys(cpus)
		whole.Trace = traceOf(cpus, 5)
		for at, turn := range whole.Trace {
			for _, cpu := range []int{0, 1, 2, 3, 4, 5, -1, -2, -4, turn.Cpu + cpus, turn.Cpu - cpus, 1 << 32, turn.Cpu + 1<<32, math.MinInt, math.MaxInt} {
				s := turned(whole, func(s *impl.Sys) { s.Trace[at].Cpu = cpu })
				wantOnlyTurns(t, s, cpu == turn.Cpu)
			}
		}
	}
}

// Whole ticks may change places, and turns of one processor, for what a turn says
// of tasks is not asked; two turns of one tick may not.
func TestTurnsInAnotherOrder(t *testing.T) {
	for cpus := 1; cpus <= 4; cpus++ {
		whole := bareSys(cpus)
		whole.Trace = traceOf(cpus, 5)
		for one := range whole.Trace {
			for two := range whole.Trace {
				s := turned(whole, func(s *impl.Sys) { s.Trace[one], s.Trace[two] = s.Trace[two], s.Trace[one] })
				wantOnlyTurns(t, s, one%cpus == two%cpus)
			}
		}
		slices.Reverse(whole.Trace)
		wantOnlyTurns(t, whole, cpus == 1)
		// twice in one tick, or in none
		whole.Trace = traceOf(cpus, 5)
		for at, turn := range whole.Trace {
			twice := turned(whole, func(s *impl.Sys) { s.Trace = slices.Insert(s.Trace, at, turn) })
			wantOnlyTurns(t, twice, cpus == 1)
			never := turned(whole, func(s *impl.Sys) { s.Trace = slices.Delete(s.Trace, at, at+1) })
			wantOnlyTurns(t, never, cpus == 1)
		}
	}
}

func TestTurnsThatNobodyTakes(t *testing.T) {
	odd := []int{0, 1, 5, 1000, 1001, -1, 1 << 32, math.MinInt, math.MaxInt}
	for cpus := 1; cpus <= 4; cpus++ {
		whole := bareSys(cpus)
		whole.Trace = traceOf(cpus, 3)
		for at := range whole.Trace {
			for _, context := range odd {
				for _, executor := range odd {
					s := turned(whole, func(s *impl.Sys) { s.Trace[at].Context, s.Trace[at].Executor = context, executor })
					wantOnlyTurns(t, s, (context == 0) == (executor == 0))
				}
			}
		}
	}
}

// How many ticks there were is not asked, nor whether who had a turn is there.
func TestTracesSayNothingOfTheRest(t *testing.T) {
	for _, now := range []int{0, 1, 7, 99999, 100000} {
		s := turned(steady(), func(s *impl.Sys) { s.Now, s.Trace = now, nil })
		wantAll(t, s)
		s.Trace = []impl.Turn{turnOf(0, 999, 40), turnOf(1, 70, 998), turnOf(2, 999, 999)}
		wantAll(t, s)
		s.Tasks, s.Locks = nil, freeLocks(5)
		wantAll(t, s)
		// nor whether it took two turns of a tick
		s.Trace = []impl.Turn{turnOf(0, 10, 10), turnOf(1, 10, 10), turnOf(2, 10, 10)}
		wantAll(t, s)
	}
}

func TestDeadlinesThatAreMissed(t *testing.T) {
	for _, s := range []impl.Sys{bareSys(1), bareSys(4), steady()} {
		for _, missed := range []int{0, 1, 2, 3, 256, 1 << 16, 99999, 100000} {
			wantOnlyDue(t, turned(s, func(s *impl.Sys) { s.Missed = missed }), missed == 0)
		}
		for _, missed := range []int{-1, 100001, 1 << 32, -1 << 32, math.MinInt, math.MaxInt} {
			wantNone(t, turned(s, func(s *impl.Sys) { s.Missed = missed }))
		}
	}
	// one that was asleep ahead of its deadline, which no tick has seen
	late := sysOn(1, 50, asleep(dueNo(7, 1, 50)))
	wantAll(t, late)
	wantOnlyDue(t, ticked(t, late), false)
	wantAll(t, ticked(t, sysOn(1, 50, asleep(dueNo(7, 0, 50)))))
	wantAll(t, ticked(t, sysOn(1, 50, idle(asleep(dueNo(7, 1, 50))))))
}

func TestFairsNearTheFloor(t *testing.T) {
	for cpus := 1; cpus <= 4; cpus++ {
		for cpu := range cpus {
			for _, floor := range []int{0, 1, 30, 47, 48, 49, 1 << 16, mostV - 49, mostV - 48, mostV - 1, mostV} {
				for _, v := range []int{0, floor - 49, floor - 48, floor - 1, floor, floor + 1, floor + 24, floor + 47, floor + 48, floor + 49, floor + 96, mostV} {
					if !between(v, 0, mostV) {
						continue
					}
					near := between(v, floor, floor+48)
					s := sysOn(cpus, 8, onCpu(cpu, fairNo(5, v)))
					s.Floors[cpu] = floor
					wantOnlyFair(t, s, near)
					wantOnlyFair(t, turned(s, func(s *impl.Sys) { s.Tasks[0] = asleep(s.Tasks[0]) }), near)
					wantOnlyFair(t, turned(s, func(s *impl.Sys) { s.Tasks[0] = idle(s.Tasks[0]) }), true)
					wantOnlyFair(t, turned(s, func(s *impl.Sys) { s.Tasks[0] = idle(asleep(s.Tasks[0])) }), true)
				}
			}
		}
	}
}

// Its nice counts for nothing, nor does what it has or waits for.
func TestFairsOfEachKindNearTheFloor(t *testing.T) {
	for _, row := range niceRows() {
		for _, v := range []int{99, 100, 148, 149} {
			s := sysOn(1, 8, niceNo(5, row.nice, v), fairNo(6, 100))
			s.Floors[0] = 100
			for _, locks := range [][]impl.Lock{nil, {lockOf(5)}, {lockOf(6, 5)}, {lockOf(5, 6)}} {
				s.Locks = fiveLocks(locks...)
				wantOnlyFair(t, s, between(v, 100, 148))
				wantOnlyFair(t, turned(s, func(s *impl.Sys) { s.Tasks[0].Idle = true }), true)
			}
		}
	}
}

func TestFairsGoByTheirOwnFloor(t *testing.T) {
	floors := []int{1000, 0, 500, 70}
	for at, floor := range floors {
		for cpu := range floors {
			for _, above := range []int{-1, 0, 48, 49} {
				s := bareSys(4)
				s.Floors = slices.Clone(floors)
				if floor+above < 0 {
					continue
				}
				s.Tasks = []impl.Task{onCpu(cpu, fairNo(5, floor+above))}
				wantOnlyFair(t, s, cpu == at && between(above, 0, 48))
			}
		}
	}
}

func TestTasksOfOtherClassesHaveNoFloor(t *testing.T) {
	for _, floor := range []int{0, 1, 48, 49, mostV} {
		s := sysOn(1, 8, dueNo(3, 5, 40), fixedNo(4, 20, 1000000), roundNo(5, 1, 10, 10, 49))
		s.Floors[0] = floor
		wantAll(t, s)
		for at := range s.Tasks {
			wantAll(t, turned(s, func(s *impl.Sys) { s.Tasks[at] = idle(asleep(s.Tasks[at])) }))
		}
	}
}

// One of many is enough, wherever it stands.
func TestOneFairAmongOthers(t *testing.T) {
	for _, cpus := range []int{1, 3} {
		s := bareSys(cpus)
		for i := range 12 {
			s.Tasks = append(s.Tasks, onCpu(i%cpus, fairNo(10+i, 60+i*4)))
		}
		for cpu := range s.Floors {
			s.Floors[cpu] = 60
		}
		wantAll(t, s)
		for at := range s.Tasks {
			for _, v := range []int{0, 59, 60, 108, 109, mostV} {
				far := turned(s, func(s *impl.Sys) { s.Tasks[at].V = v })
				wantOnlyFair(t, far, between(v, 60, 108))
				far.Tasks[at].Idle = true
				wantOnlyFair(t, far, true)
				far.Tasks[(at+5)%12].V = 0
				wantOnlyFair(t, far, false)
			}
		}
	}
}

// As those who may have a turn, and those who may not, stand on one processor and
// on several: what Pick tells is the best, and no two tell of one taker.
func TestJudgesOfWhoCanHaveATurn(t *testing.T) {
	ready := []impl.Task{dueNo(10, 1, 20), fixedNo(20, 4, 9), fairNo(30, 7)}
	others := []impl.Task{
		asleep(dueNo(5, 1, 19)), dueNo(5, 0, 19), idle(dueNo(5, 0, 19)), idle(asleep(dueNo(5, 1, 19))), asleep(fixedNo(5, 20, 0)), asleep(fairNo(5, 0)),
		idle(dueNo(5, 1, 19)), idle(fixedNo(5, 20, 0)), idle(fairNo(5, 0)), dueNo(5, 1, 20), fixedNo(5, 4, 9), fairNo(5, 7),
	}
	for _, one := range others {
		for cpus := 1; cpus <= 4; cpus++ {
			// nobody else, on no processor but the last
			wantAll(t, sysOn(cpus, 8, onCpu(cpus-1, one)))
			for _, other := range ready {
				wantAll(t, sysOn(cpus, 8, onCpu(cpus-1, one), other))
				wantAll(t, sysOn(cpus, 8, onCpu(cpus-1, one), onCpu(cpus-1, other)))
			}
			s := sysOn(cpus, 8, onCpu(cpus-1, one), ready[0], ready[1], ready[2])
			wantAll(t, s)
		}
	}
}

// Of a chain of 60, which waits, up to 10 anybody may sleep, be Idle, or have
// nothing left.
func TestJudgesOfWhoWaits(t *testing.T) {
	for asleepOnes := range 64 {
		for idleOnes := range 8 {
			for _, left := range []int{0, 1} {
				s := sysOn(1, 8, hikers()...)
				s.Locks = trail(5)
				for i := range s.Tasks {
					s.Tasks[i].State = 1 + asleepOnes>>i&1
					s.Tasks[i].Idle = idleOnes>>(i%3)&1 == 1
					if s.Tasks[i].Class == 1 {
						s.Tasks[i].Left = left
					}
				}
				wantAll(t, s)
			}
		}
	}
}

// On each processor an owner takes the turn of one that waits; on the last one it
// takes those of several.
func TestJudgesOfTurnsThatAreLent(t *testing.T) {
	for cpus := 1; cpus <= 4; cpus++ {
		s := bareSys(cpus)
		for cpu := range cpus {
			s.Tasks = append(s.Tasks, onCpu(cpu, fairNo(10+cpu*10, 4)), onCpu(cpu, dueNo(11+cpu*10, 5, 30)))
			s.Locks[cpu] = lockOf(10+cpu*10, 11+cpu*10)
			if context, executor := impl.Pick(s.Tasks, s.Locks, cpu); context != 11+cpu*10 || executor != 10+cpu*10 {
				t.Fatalf("%d, which %d takes", context, executor)
			}
			wantAll(t, s)
		}
		last := cpus * 10
		s.Tasks = append(s.Tasks, onCpu(cpus-1, fixedNo(last+2, 3, 1)), onCpu(cpus-1, fixedNo(last+3, 9, 2)))
		s.Locks[4] = lockOf(last, last+2, last+3)
		wantAll(t, s)
		s.Tasks[0] = asleep(s.Tasks[0])
		wantAll(t, s)
	}
}

// A lock between two processors would have its owner take the turns of both: no
// such system is right, and no judge has a word for it.
func TestJudgesOfWhoWouldTakeTwo(t *testing.T) {
	for cpus := 2; cpus <= 4; cpus++ {
		s := sysOn(cpus, 8, fairNo(10, 4), onCpu(cpus-1, dueNo(20, 5, 30)))
		wantAll(t, s)
		s.Locks[0] = lockOf(10, 20)
		one, taker := impl.Pick(s.Tasks, s.Locks, 0)
		two, other := impl.Pick(s.Tasks, s.Locks, cpus-1)
		if one != 10 || two != 20 || taker != 10 || other != 10 {
			t.Fatalf("%d and %d, which %d and %d take", one, two, taker, other)
		}
		wantNone(t, s)
		s.Locks[0] = lockOf(20, 10)
		wantNone(t, s)
	}
}

// Of the five three can be false of a right system: by none of them, by one, by
// two and by all of them JudgeAll is so.
func TestAllOfTheFive(t *testing.T) {
	changes := []func(s *impl.Sys){
		func(s *impl.Sys) { s.Trace = s.Trace[1:] },
		func(s *impl.Sys) { s.Missed = 1 },
		func(s *impl.Sys) { s.Tasks[2].V = s.Floors[0] + 49 },
	}
	for _, base := range []impl.Sys{steady(), called(t, bareSys(2), fairCall(10, 0, 0), fairCall(20, 1, 0), fairCall(30, 0, 1), ticksCall(5))} {
		for which := range 8 {
			s := turned(base, func(s *impl.Sys) {
				for i, change := range changes {
					if which>>i&1 == 1 {
						change(s)
					}
				}
			})
			wantJudged(t, s, verdict{which&1 == 0, which&2 == 0, which&4 == 0, true, true, which == 0})
		}
	}
}

func TestJudgesOfWrongSystems(t *testing.T) {
	for _, s := range wrongSystems() {
		wantNone(t, s)
		// as they are all five would hold but for that
		s.Missed, s.Trace = min(s.Missed, 0), nil
		if !sysOkByWord(s) {
			wantNone(t, s)
		}
	}
}

func TestJudgesOfSystemsWithoutAnything(t *testing.T) {
	wantNone(t, impl.Sys{})
	wantNone(t, impl.Sys{Tasks: []impl.Task{}, Locks: []impl.Lock{}, Ghosts: []impl.Ghost{}, Floors: []int{}, Trace: []impl.Turn{}})
	for _, cpus := range append(wrongCpus(), 0, 1, 2, 3, 4) {
		wantNone(t, impl.Sys{Cpus: cpus})
		wantNone(t, impl.Sys{Cpus: cpus, Trace: traceOf(1, 3)})
	}
	wantNone(t, impl.Sys{Cpus: 1, Locks: freeLocks(5)})
	wantNone(t, impl.Sys{Cpus: 1, Floors: []int{0}})
	wantAll(t, impl.Sys{Cpus: 1, Locks: freeLocks(5), Floors: []int{0}})
	wantAll(t, impl.Sys{Cpus: 1, Tasks: []impl.Task{}, Locks: freeLocks(5), Ghosts: []impl.Ghost{}, Floors: []int{0}, Trace: []impl.Turn{}})
}

func TestJudgesAtTheEndsOfInt(t *testing.T) {
	for _, end := range []int{math.MinInt, math.MinInt + 1, math.MaxInt - 1, math.MaxInt} {
		wantNone(t, impl.Sys{
			Now: end, Cpus: end, Seq: end, Missed: end,
			Tasks:  []impl.Task{{No: end, Class: 3, Cpu: end, State: end, Nice: end, V: end}, {No: end, Class: 1, Cpu: end, Q: end, P: end}},
			Locks:  []impl.Lock{lockOf(end, end), lockOf(end), lockOf(0), lockOf(1), lockOf(-end)},
			Ghosts: []impl.Ghost{{Cpu: end, S: impl.Share{Q: end, P: end}, Until: end}},
			Floors: []int{end, end},
			Trace:  []impl.Turn{turnOf(end, end, end)},
		})
		for _, change := range []func(s *impl.Sys){
			func(s *impl.Sys) { s.Cpus = end }, func(s *impl.Sys) { s.Floors[0] = end }, func(s *impl.Sys) { s.Tasks[2].V = end },
			func(s *impl.Sys) { s.Tasks[0].Due = end }, func(s *impl.Sys) { s.Locks[1].Owner = end }, func(s *impl.Sys) { s.Now = end },
		} {
			wantNone(t, turned(steady(), change))
		}
		wantOnlyTurns(t, turned(steady(), func(s *impl.Sys) { s.Trace[1].Cpu = end }), false)
		wantOnlyTurns(t, turned(steady(), func(s *impl.Sys) { s.Trace[1].Context, s.Trace[1].Executor = end, end }), true)
		wantOnlyTurns(t, turned(steady(), func(s *impl.Sys) { s.Trace[2].Executor = end }), false)
	}
}

// judgeable is a system whose judges are not all of one mind, more often than not.
func (n *numbers) judgeable() impl.Sys {
	s := n.lively()
	s.Missed = n.oneOf(0, 0, 0, 0, 1, s.Missed)
	s.Trace = traceOf(s.Cpus, n.below(20))
	if n.below(4) == 0 && len(s.Trace) > 0 {
		turn := &s.Trace[n.below(len(s.Trace))]
		turn.Cpu, turn.Executor = n.oneOf(turn.Cpu, n.below(4)), n.oneOf(turn.Executor, 0, 5)
	}
	if n.below(6) == 0 {
		s.Trace = s.Trace[:n.below(len(s.Trace)+1)]
	}
	for at, task := range s.Tasks {
		if task.Class == 3 && n.below(6) > 0 {
			s.Tasks[at].V = s.Floors[task.Cpu] + n.oneOf(0, 1, 24, 47, 48)
		}
	}
	if n.below(8) == 0 {
		n.worsen(&s)
	}
	return s
}

func TestManyJudgesByWord(t *testing.T) {
	var n numbers
	seen := map[verdict]int{}
	for range 20000 {
		s := n.judgeable()
		want := judgedByWord(s)
		wantJudged(t, s, want)
		seen[want]++
	}
	for _, v := range []verdict{{}, allHold, {false, true, true, true, true, false}, {true, false, true, true, true, false}, {true, true, false, true, true, false}} {
		if seen[v] < 500 {
			t.Errorf("too few to tell: %d of %+v", seen[v], v)
		}
	}
}

// pressing asks for more than there is time for, and has those who share fairly
// come, go to other processors and change their minds; ticks come more often than
// anyCall has them.
func (n *numbers) pressing(s impl.Sys) impl.Call {
	no := 1 + n.below(12)
	switch n.below(12) {
	case 0:
		p := 1 + n.below(n.oneOf(4, 12, 40))
		return dueCall(no, n.below(s.Cpus), 1+n.below(p), p)
	case 1:
		return fairCall(no, n.below(s.Cpus), n.below(9)-4)
	case 2:
		return moveCall(no, n.below(s.Cpus))
	case 3:
		return niceCall(no, n.below(9)-4)
	case 4, 5, 6, 7:
		return ticksCall(n.oneOf(1, 1, 2, 3, 9))
	}
	return n.anyCall(s)
}

// wantNobodyTakesTwo looks at each tick of a new system's trace.
func wantNobodyTakesTwo(t *testing.T, s impl.Sys) {
	t.Helper()
	if len(s.Trace) != s.Now*s.Cpus {
		t.Fatalf("at %d there are %d turns of %d processors", s.Now, len(s.Trace), s.Cpus)
	}
	for tick := range s.Now {
		took := map[int]int{}
		for cpu, turn := range s.Trace[tick*s.Cpus : (tick+1)*s.Cpus] {
			if took[turn.Executor]++; turn.Cpu != cpu || turn.Executor != 0 && took[turn.Executor] > 1 {
				t.Fatalf("in tick %d of %+v: %+v", tick, s, turn)
			}
		}
	}
}

// Promise 12: whatever is asked of a new system: nobody who could run all along
// misses a deadline; who shares fairly stays within Scale of the floor; each
// processor has one turn a tick, and nobody takes two.
func TestWhateverIsAskedOfANewSystem(t *testing.T) {
	var n numbers
	var seen tally
	full := 0
	for run := range 400 {
		s, _ := impl.SysNew(1 + run%4)
		for range 150 {
			c := n.pressing(s)
			next, code := impl.SysCall(s, c)
			if impl.CallOk(c) {
				seen[c.Kind][code]++
			}
			if code != 0 {
				continue
			}
			s = next
			if got := judged(s); got != allHold {
				t.Fatalf("behind %+v: %+v of %+v", c, got, s)
			}
			if s.Missed != 0 || !nearFloorsByWord(s) {
				t.Fatalf("behind %+v: %+v", c, s)
			}
		}
		wantNobodyTakesTwo(t, s)
		wantJudged(t, s, judgedByWord(s))
		if len(s.Trace) > 400-2*s.Cpus {
			full++
		}
	}
	for kind := 1; kind <= 11; kind++ {
		if seen[kind][0] < 300 {
			t.Errorf("too few to tell: %d of Kind %d are done", seen[kind][0], kind)
		}
	}
	if full < 50 {
		t.Errorf("too few to tell: %d long traces", full)
	}
}

func TestRunsThatAreJudged(t *testing.T) {
	var n numbers
	for run := range 200 {
		s, _ := impl.SysNew(1 + run%4)
		var calls []impl.Call
		last := s
		for range 150 {
			c := n.pressing(last)
			last, _ = impl.SysRun(last, []impl.Call{c})
			calls = append(calls, c)
		}
		got, _ := impl.SysRun(s, calls)
		wantAll(t, got)
		wantNobodyTakesTwo(t, got)
		for got.Now < 400/got.Cpus {
			got = ticked(t, got)
			wantAll(t, got)
		}
	}
}

// span is the time of a task up to its deadline, as far as it could run all along,
// and how many turns it has to have in it.
type span struct{ from, until, turns int }

// wantItsTurns counts the turns by the trace alone.
func wantItsTurns(t *testing.T, s impl.Sys, no int, over span) {
	t.Helper()
	count := 0
	for _, turn := range s.Trace[over.from*s.Cpus : over.until*s.Cpus] {
		if turn.Context == no {
			count++
		}
	}
	if count != over.turns {
		t.Fatalf("%d has %d turns of %+v in %+v", no, count, over, s)
	}
}

// spansBehindTick holds each span that has come to its end against the trace.
func spansBehindTick(t *testing.T, s impl.Sys, spans map[int]span) int {
	t.Helper()
	ended := 0
	for _, task := range s.Tasks {
		over, known := spans[task.No]
		switch {
		case task.Class != 1 || task.Idle:
			delete(spans, task.No)
			continue
		case known && over.until == task.Due:
			continue
		case known:
			wantItsTurns(t, s, task.No, over)
			ended++
		}
		fresh := span{s.Now - 1, task.Due, task.Left}
		if s.Trace[(s.Now-1)*s.Cpus+task.Cpu].Context == task.No {
			fresh.turns++
		}
		spans[task.No] = fresh
	}
	return ended
}

// Who could run all along up to its deadline has had all its turns by then, however
// full its processor is and whoever sleeps, wakes, waits, comes and goes.
func TestDeadlinesAreMetByTheTrace(t *testing.T) {
	var n numbers
	ended := 0
	for run := range 200 {
		s, _ := impl.SysNew(1 + run%4)
		spans := map[int]span{}
		for s.Now < 400/s.Cpus {
			for range n.below(4) {
				c := n.pressing(s)
				if c.Kind == impl.CaTicks {
					continue
				}
				next, code := impl.SysCall(s, c)
				if code == 0 {
					s = next
				}
				if code == 0 && c.Kind == impl.CaExit {
					delete(spans, c.No)
				}
			}
			s = ticked(t, s)
			ended += spansBehindTick(t, s, spans)
		}
		wantAll(t, s)
	}
	if ended < 5000 {
		t.Errorf("too few to tell: %d deadlines", ended)
	}
}

// Processors that are full to the last tick.
func TestFullProcessorsMissNothing(t *testing.T) {
	for _, p := range parts() {
		if !p.fit {
			continue
		}
		for cpus := 1; cpus <= 4; cpus++ {
			s := bareSys(cpus)
			for i, share := range p.list {
				s = called(t, s, dueCall(10+i, cpus-1, share.Q, share.P))
			}
			s = called(t, s, fairCall(5, cpus-1, 4), fixedCall(6, cpus-1, 20, 0))
			for s.Now < 400/cpus {
				s = ticked(t, s)
				wantAll(t, s)
			}
		}
	}
}

// One of two that fill a processor ends at some time, and another one asks for what
// is free from then on: it may have that once nobody is late by it.
func TestPartsOfWhoIsNoMoreMissNothing(t *testing.T) {
	refused, ghostly := 0, 0
	for p := 2; p <= 6; p++ {
		for q := 1; q < p; q++ {
			for until := 1; until < p; until++ {
				for _, share := range rightShares() {
					if share.P > 6 {
						continue
					}
					s := called(t, bareSys(1), dueCall(3, 0, q, p), dueCall(5, 0, p-q, p), ticksCall(until), exitCall(3))
					for s.Now < 3*p {
						next, code := impl.SysCall(s, dueCall(4, 0, share.Q, share.P))
						switch {
						case code == 0:
							s = next
						case code == 4 && len(s.Ghosts) > 0:
							ghostly++
						case code == 4:
							refused++
						}
						s = ticked(t, s)
						if got := judged(s); got != allHold {
							t.Fatalf("%d of %d up to %d, then %+v: %+v of %+v", q, p, until, share, got, s)
						}
					}
				}
			}
		}
	}
	if min(refused, ghostly) < 1000 {
		t.Errorf("too few to tell: %d refused, %d for a ghost", refused, ghostly)
	}
}

// However they are asked, and how often: a judge tells the same.
func TestJudgesTellTheSame(t *testing.T) {
	systems := append(rightSystems(), steady(), impl.Sys{}, turned(steady(), func(s *impl.Sys) { s.Trace = s.Trace[1:] }),
		turned(steady(), func(s *impl.Sys) { s.Tasks[2].V = 79 }))
	var all sync.WaitGroup
	for _, s := range systems {
		want := judgedByWord(s)
		for range 4 {
			all.Go(func() {
				for range 50 {
					if got := judged(s); got != want {
						t.Errorf("%+v, then %+v of %+v", want, got, s)
					}
				}
			})
		}
	}
	all.Wait()
}

func TestJudgesOfListsThatShareMemory(t *testing.T) {
	room := []int{10, 20, 30, 40, 50, 60}
	s := impl.Sys{Cpus: 1, Tasks: []impl.Task{fairNo(10, 10), fixedNo(20, 4, 9), dueNo(30, 1, 17), fairNo(40, 58), fixedNo(50, 5, 8), dueNo(60, 2, 40)},
		Locks: freeLocks(5), Floors: room[:1]}
	s.Locks[0] = impl.Lock{Owner: 10, Waits: room[1:3]}
	s.Locks[1] = impl.Lock{Owner: 20, Waits: room[3:6]}
	if got := judged(s); got != allHold || !slices.Equal(room, []int{10, 20, 30, 40, 50, 60}) {
		t.Errorf("%+v of %+v", got, s)
	}
	s.Floors = room[1:2]
	if got := judged(s); got != (verdict{true, true, false, true, true, false}) {
		t.Errorf("%+v of %+v", got, s)
	}
}
