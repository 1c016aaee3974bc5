package tests

import (
	"math"
	"slices"
	"testing"

	"loop.example/g00185/impl"
)

// partNo is a ready ClDue with a part of its own.
func partNo(no int, cpu int, q int, p int) impl.Task {
	return impl.Task{No: no, Class: 1, Cpu: cpu, State: 1, Q: q, P: p, Left: q, Due: 17}
}

func ghostOn(cpu int, q int, p int) impl.Ghost {
	return impl.Ghost{Cpu: cpu, S: impl.Share{Q: q, P: p}, Until: 9}
}

func ghosts(cpu int, shares ...impl.Share) []impl.Ghost {
	list := make([]impl.Ghost, len(shares))
	for i, s := range shares {
		list[i] = impl.Ghost{Cpu: cpu, S: s, Until: i}
	}
	return list
}

func dues(from int, cpu int, shares ...impl.Share) []impl.Task {
	list := make([]impl.Task, len(shares))
	for i, s := range shares {
		list[i] = partNo(from+i, cpu, s.Q, s.P)
	}
	return list
}

// bareSys is a new system, written out.
func bareSys(cpus int) impl.Sys {
	return impl.Sys{Cpus: cpus, Locks: make([]impl.Lock, 5), Floors: make([]int, cpus)}
}

// busySys has tasks of every class, locks that are had and waited for, ghosts,
// floors and a trace, on three processors.
func busySys() impl.Sys {
	return impl.Sys{
		Now:  7,
		Cpus: 3,
		Tasks: []impl.Task{
			partNo(10, 0, 1, 2), fixedNo(20, 4, 9), fairNo(30, 31),
			onCpu(1, fairNo(40, 12)), onCpu(1, asleep(fixedNo(50, 5, 8))), partNo(60, 1, 2, 3),
			partNo(70, 2, 1, 1), onCpu(2, idle(fairNo(80, 0))), partNo(90, 0, 1, 5),
		},
		Locks:  []impl.Lock{lockOf(30, 10, 20), lockOf(0), lockOf(20, 90), lockOf(60, 40), lockOf(80)},
		Ghosts: []impl.Ghost{ghostOn(1, 1, 4), ghostOn(0, 1, 10), ghostOn(0, 1, 40)},
		Floors: []int{30, 12, 0},
		Seq:    9,
		Missed: 2,
		Trace:  []impl.Turn{{Context: 10, Executor: 30}, {Cpu: 1, Context: 60, Executor: 60}, {Cpu: 2}},
	}
}

// fullSys meets every limit.
func fullSys() impl.Sys {
	s := impl.Sys{Now: 100000, Cpus: 4, Tasks: fullHouse(), Seq: 1000000, Missed: 100000, Trace: make([]impl.Turn, 400)}
	for cpu := range 4 {
		s.Ghosts = append(s.Ghosts, impl.Ghost{Cpu: cpu, S: impl.Share{Q: 10, P: 40}, Until: 100040},
			impl.Ghost{Cpu: cpu, S: impl.Share{Q: 1, P: 4}}, impl.Ghost{Cpu: cpu, S: impl.Share{Q: 5, P: 20}, Until: 1})
		s.Floors = append(s.Floors, mostV)
	}
	s.Locks = []impl.Lock{lockOf(10, 20, 30), lockOf(11, 31, 21), lockOf(12), lockOf(33, 13, 23), lockOf(10)}
	return s
}

func rightSystems() []impl.Sys {
	list := []impl.Sys{busySys(), fullSys()}
	for cpus := 1; cpus <= 4; cpus++ {
		list = append(list, bareSys(cpus))
	}
	return list
}

func copySys(s impl.Sys) impl.Sys {
	s.Tasks, s.Locks, s.Ghosts = slices.Clone(s.Tasks), copyLocks(s.Locks), slices.Clone(s.Ghosts)
	s.Floors, s.Trace = slices.Clone(s.Floors), slices.Clone(s.Trace)
	return s
}

// turned is the system that a change makes of a copy.
func turned(s impl.Sys, change func(s *impl.Sys)) impl.Sys {
	next := copySys(s)
	change(&next)
	return next
}

// sameSys takes nil and an empty list for the same.
func sameSys(a impl.Sys, b impl.Sys) bool {
	return a.Now == b.Now && a.Cpus == b.Cpus && a.Seq == b.Seq && a.Missed == b.Missed &&
		slices.Equal(a.Tasks, b.Tasks) && sameLocks(a.Locks, b.Locks) && slices.Equal(a.Ghosts, b.Ghosts) &&
		slices.Equal(a.Floors, b.Floors) && slices.Equal(a.Trace, b.Trace)
}

// roomySys is the system with room behind each of its lists, and a look that
// tells whether all of that is as it was.
func roomySys(s impl.Sys) (impl.Sys, func() bool) {
	tasks, tasksAsTheyWere := spacious(s.Tasks, partNo(77, 0, 1, 1), impl.Task{})
	locks, locksAsTheyWere := roomy(s.Locks)
	others, ghostsAsTheyWere := spacious(s.Ghosts, ghostOn(0, 1, 1), impl.Ghost{})
	floors, floorsAsTheyWere := spacious(s.Floors, 77, -78)
	trace, traceAsItWas := spacious(s.Trace, impl.Turn{Context: 77, Executor: 78}, impl.Turn{})
	s.Tasks, s.Locks, s.Ghosts, s.Floors, s.Trace = tasks, locks, others, floors, trace
	return s, func() bool {
		return tasksAsTheyWere() && locksAsTheyWere() && ghostsAsTheyWere() && floorsAsTheyWere() && traceAsItWas()
	}
}

func wantSysOk(t *testing.T, s impl.Sys, want bool) {
	t.Helper()
	given, asItWas := roomySys(s)
	if got := impl.SysOk(given); got != want {
		t.Errorf("SysOk(%+v) = %t", s, got)
	}
	if !asItWas() {
		t.Errorf("SysOk(%+v) wrote into it", s)
	}
}

func wantShares(t *testing.T, s impl.Sys, cpu int, want ...impl.Share) {
	t.Helper()
	given, asItWas := roomySys(s)
	got := impl.SharesOn(given, cpu)
	if !slices.Equal(got, want) {
		t.Errorf("SharesOn(%+v, %d) = %v; want %v", s, cpu, got, want)
	}
	for i := range got {
		got[i] = impl.Share{Q: -55, P: -56}
	}
	if got = append(got, impl.Share{Q: -57}); !asItWas() {
		t.Errorf("SharesOn(%+v, %d) shares memory with it: %v", s, cpu, got)
	}
}

func wantSameCpu(t *testing.T, s impl.Sys, i int, no int, want bool) {
	t.Helper()
	given, asItWas := roomySys(s)
	if got := impl.SameCpu(given, i, no); got != want {
		t.Errorf("SameCpu(%+v, %d, %d) = %t", s, i, no, got)
	}
	if !asItWas() {
		t.Errorf("SameCpu(%+v, %d, %d) wrote into it", s, i, no)
	}
}

func wantFloorOn(t *testing.T, s impl.Sys, cpu int, want int) {
	t.Helper()
	given, asItWas := roomySys(s)
	if got := impl.FloorOn(given, cpu); got != want {
		t.Errorf("FloorOn(%+v, %d) = %d; want %d", s, cpu, got, want)
	}
	if !asItWas() {
		t.Errorf("FloorOn(%+v, %d) wrote into it", s, cpu)
	}
}

// The functions named ByWord are the chapter's words once more.
func sharesByWord(s impl.Sys, cpu int) []impl.Share {
	var list []impl.Share
	for _, t := range s.Tasks {
		if t.Class == 1 && t.Cpu == cpu {
			list = append(list, impl.Share{Q: t.Q, P: t.P})
		}
	}
	for _, g := range s.Ghosts {
		if g.Cpu == cpu {
			list = append(list, g.S)
		}
	}
	return list
}

func fitsByWord(list []impl.Share) bool {
	for _, s := range list {
		if !between(s.P, 1, 40) || !between(s.Q, 1, s.P) {
			return false
		}
	}
	return len(list) <= 7 && unitsOfAll(list) <= unit
}

func sameCpuByWord(s impl.Sys, i int, no int) bool {
	task, known := taskByWord(s.Tasks, no)
	if !known || !between(i, 0, len(s.Locks)-1) {
		return false
	}
	owner, owned := taskByWord(s.Tasks, s.Locks[i].Owner)
	return s.Locks[i].Owner == 0 || owned && owner.Cpu == task.Cpu
}

func floorByWord(s impl.Sys, cpu int) int {
	if !between(cpu, 0, len(s.Floors)-1) {
		return 0
	}
	return s.Floors[cpu]
}

// lockIsAtHomeByWord asks whether all of a lock are tasks of one processor.
func lockIsAtHomeByWord(s impl.Sys, lock impl.Lock) bool {
	all := slices.Clone(lock.Waits)
	if lock.Owner != 0 {
		all = append(all, lock.Owner)
	}
	for _, no := range all {
		task, known := taskByWord(s.Tasks, no)
		first, _ := taskByWord(s.Tasks, all[0])
		if !known || task.Cpu != first.Cpu {
			return false
		}
	}
	return true
}

func sysOkByWord(s impl.Sys) bool {
	right := between(s.Now, 0, 100000) && between(s.Cpus, 1, 4) && tasksOkByWord(s.Tasks) && len(s.Locks) == 5 && locksOkByWord(s.Locks) &&
		len(s.Ghosts) <= 12 && len(s.Floors) == s.Cpus && between(s.Seq, 0, 1000000) && between(s.Missed, 0, 100000) && len(s.Trace) <= 400
	for _, t := range s.Tasks {
		right = right && t.Cpu < s.Cpus
	}
	for _, l := range s.Locks {
		right = right && lockIsAtHomeByWord(s, l)
	}
	for _, g := range s.Ghosts {
		right = right && between(g.Cpu, 0, s.Cpus-1) && between(g.S.P, 1, 40) && between(g.S.Q, 1, g.S.P) && between(g.Until, 0, 100040)
	}
	for cpu := range 4 {
		right = right && fitsByWord(sharesByWord(s, cpu))
	}
	for _, floor := range s.Floors {
		right = right && between(floor, 0, 100000000)
	}
	return right
}

func wantSysByWord(t *testing.T, s impl.Sys, cpus []int, is []int, nos []int) {
	t.Helper()
	wantSysOk(t, s, sysOkByWord(s))
	for _, cpu := range cpus {
		wantShares(t, s, cpu, sharesByWord(s, cpu)...)
		wantFloorOn(t, s, cpu, floorByWord(s, cpu))
	}
	for _, i := range is {
		for _, no := range nos {
			wantSameCpu(t, s, i, no, sameCpuByWord(s, i, no))
		}
	}
}

func TestSysConstants(t *testing.T) {
	if impl.MaxTrace != 400 || impl.MaxGhosts != 12 || impl.MaxSeq != 900000 {
		t.Error(impl.MaxTrace, impl.MaxGhosts, impl.MaxSeq)
	}
}

func TestSysNewOfEach(t *testing.T) {
	for cpus := 1; cpus <= 4; cpus++ {
		got, ok := impl.SysNew(cpus)
		if !ok || !sameSys(got, bareSys(cpus)) || len(got.Locks) != 5 || len(got.Floors) != cpus {
			t.Errorf("SysNew(%d) = %+v, %t", cpus, got, ok)
		}
		wantSysOk(t, got, true)
		for cpu := -1; cpu <= 5; cpu++ {
			wantShares(t, got, cpu)
			wantFloorOn(t, got, cpu, 0)
		}
	}
}

func TestSysNewOfNone(t *testing.T) {
	for _, cpus := range []int{0, 5, -1, 6, -4, 256, 1 << 32, 1<<32 + 1, -1 << 32, math.MinInt, math.MinInt + 1, math.MaxInt - 1, math.MaxInt} {
		if got, ok := impl.SysNew(cpus); ok || !sameSys(got, impl.Sys{}) {
			t.Errorf("SysNew(%d) = %+v, %t", cpus, got, ok)
		}
	}
}

// Two new systems, and the lists of one, have nothing in common.
func TestNewSystemsAreApart(t *testing.T) {
	for cpus := 1; cpus <= 4; cpus++ {
		one, _ := impl.SysNew(cpus)
		two, _ := impl.SysNew(cpus)
		for i := range one.Locks {
			one.Locks[i].Waits = append(one.Locks[i].Waits, i+1)
		}
		for i := range one.Locks {
			if !slices.Equal(one.Locks[i].Waits, []int{i + 1}) {
				t.Errorf("locks share memory: %v", one.Locks)
			}
			one.Locks[i].Owner = 50
		}
		for i := range one.Floors {
			one.Floors[i] = 60
		}
		one.Tasks, one.Ghosts = append(one.Tasks, fairNo(1, 0)), append(one.Ghosts, ghostOn(0, 1, 1))
		one.Floors, one.Trace = append(one.Floors, 70), append(one.Trace, impl.Turn{Cpu: 80})
		three, ok := impl.SysNew(cpus)
		if !sameSys(two, bareSys(cpus)) || !sameSys(three, bareSys(cpus)) || !ok {
			t.Errorf("SysNew(%d): %+v, then %+v", cpus, two, three)
		}
	}
}

func TestSysOkOfRightOnes(t *testing.T) {
	for _, s := range rightSystems() {
		wantSysOk(t, s, true)
	}
	for cpus := 1; cpus <= 4; cpus++ {
		for _, task := range hikers() {
			s := bareSys(cpus)
			s.Tasks = []impl.Task{onCpu(cpus-1, task)}
			wantSysOk(t, s, true)
			s.Tasks[0] = idle(asleep(s.Tasks[0]))
			wantSysOk(t, s, true)
		}
	}
	empty := impl.Sys{Cpus: 1, Tasks: []impl.Task{}, Locks: make([]impl.Lock, 5), Ghosts: []impl.Ghost{}, Floors: []int{0}, Trace: []impl.Turn{}}
	for i := range empty.Locks {
		empty.Locks[i].Waits = []int{}
	}
	wantSysOk(t, empty, true)
}

func TestSystemsWithoutAnything(t *testing.T) {
	wantSysOk(t, impl.Sys{}, false)
	empty := impl.Sys{Tasks: []impl.Task{}, Locks: []impl.Lock{}, Ghosts: []impl.Ghost{}, Floors: []int{}, Trace: []impl.Turn{}}
	wantSysOk(t, empty, false)
	for _, s := range []impl.Sys{{}, empty, {Cpus: 1}, {Cpus: math.MaxInt}, {Cpus: math.MinInt}} {
		wantSysOk(t, s, false)
		for _, n := range append(noPlaces(0), 0, 1, 2, 3) {
			wantShares(t, s, n)
			wantFloorOn(t, s, n, 0)
			wantSameCpu(t, s, n, 0, false)
			wantSameCpu(t, s, 0, n, false)
		}
	}
}

type sysNumber struct {
	of       func(s *impl.Sys) *int
	greatest int
}

func TestNumbersOfASystemMetAndPassed(t *testing.T) {
	for _, number := range []sysNumber{
		{func(s *impl.Sys) *int { return &s.Now }, 100000},
		{func(s *impl.Sys) *int { return &s.Seq }, 1000000},
		{func(s *impl.Sys) *int { return &s.Missed }, 100000},
	} {
		for _, s := range rightSystems() {
			for _, n := range []int{0, 1, number.greatest / 2, number.greatest - 1, number.greatest} {
				wantSysOk(t, turned(s, func(s *impl.Sys) { *number.of(s) = n }), true)
			}
			for _, n := range []int{-1, -2, -number.greatest, number.greatest + 1, 1<<32 + 1, -1 << 32, math.MinInt, math.MaxInt} {
				wantSysOk(t, turned(s, func(s *impl.Sys) { *number.of(s) = n }), false)
			}
		}
	}
	// MaxSeq bounds what is still taken on, not what is right
	for _, seq := range []int{899999, 900000, 900001} {
		wantSysOk(t, turned(busySys(), func(s *impl.Sys) { s.Seq = seq }), true)
	}
}

// Cpus is tried with as many floors as it says and with others.
func TestCpusOfASystem(t *testing.T) {
	for cpus := -2; cpus <= 7; cpus++ {
		for floors := range 8 {
			s := bareSys(1)
			s.Cpus, s.Floors = cpus, make([]int, floors)
			wantSysOk(t, s, between(cpus, 1, 4) && floors == cpus)
		}
	}
	for _, cpus := range wrongCpus() {
		if cpus != 4 {
			wantSysOk(t, turned(bareSys(4), func(s *impl.Sys) { s.Cpus = cpus }), false)
		}
	}
}

func TestTasksOfProcessorsThatASystemHasNot(t *testing.T) {
	for cpus := 1; cpus <= 4; cpus++ {
		for cpu := range 6 {
			for _, task := range hikers() {
				s := bareSys(cpus)
				s.Tasks = []impl.Task{onCpu(cpu, task)}
				wantSysOk(t, s, cpu < cpus)
				s.Tasks = []impl.Task{fairNo(1, 0), onCpu(cpu, changed(task, "No", 2)), fairNo(3, 0)}
				wantSysOk(t, s, cpu < cpus)
			}
		}
		for _, cpu := range wrongCpus() {
			s := bareSys(cpus)
			s.Tasks = []impl.Task{onCpu(cpu, fairNo(1, 0))}
			wantSysOk(t, s, false)
		}
	}
}

func TestSystemsWithWrongTasks(t *testing.T) {
	for _, list := range wrongTaskLists() {
		s := bareSys(4)
		s.Tasks = list
		wantSysOk(t, s, false)
	}
	for at, task := range busySys().Tasks {
		for _, wrong := range append(wrongTasks(task.No), impl.Task{}) {
			wantSysOk(t, turned(busySys(), func(s *impl.Sys) { s.Tasks[at] = wrong }), false)
		}
		wantSysOk(t, turned(busySys(), func(s *impl.Sys) { s.Tasks[at].No = s.Tasks[(at+1)%9].No }), false)
		wantSysOk(t, turned(busySys(), func(s *impl.Sys) { s.Tasks[at], s.Tasks[(at+1)%9] = s.Tasks[(at+1)%9], s.Tasks[at] }), false)
	}
}

func TestAsManyTasksAsASystemMayHave(t *testing.T) {
	for count := range 15 {
		s := bareSys(1)
		for no := 1; no <= count; no++ {
			s.Tasks = append(s.Tasks, fairNo(no, no))
		}
		wantSysOk(t, s, count <= 12)
	}
}

func TestCountOfLocks(t *testing.T) {
	for count := range 9 {
		s := bareSys(2)
		s.Locks = freeLocks(count)
		wantSysOk(t, s, count == 5)
	}
	for _, s := range rightSystems() {
		wantSysOk(t, turned(s, func(s *impl.Sys) { s.Locks = s.Locks[:4] }), false)
		wantSysOk(t, turned(s, func(s *impl.Sys) { s.Locks = append(s.Locks, lockOf(0)) }), false)
		wantSysOk(t, turned(s, func(s *impl.Sys) { s.Locks = nil }), false)
	}
}

// fiveLocks are the locks with free ones behind them.
func fiveLocks(list ...impl.Lock) []impl.Lock {
	return append(copyLocks(list), freeLocks(max(0, 5-len(list)))...)
}

func TestSystemsWithWrongLocks(t *testing.T) {
	s := bareSys(1)
	s.Tasks = hikers()
	for _, list := range [][]impl.Lock{trail(5), trail(3), {lockOf(10, 20, 30), lockOf(10, 60), lockOf(30, 40)}} {
		s.Locks = fiveLocks(list...)
		wantSysOk(t, s, true)
	}
	for _, list := range wrongLocks() {
		s.Locks = fiveLocks(list...)
		wantSysOk(t, s, false)
	}
}

func TestLocksOfWhoIsNoTask(t *testing.T) {
	s := bareSys(1)
	s.Tasks = hikers()
	for at := range 5 {
		for no := range 1002 {
			known := no%10 == 0 && between(no, 10, 60)
			s.Locks = freeLocks(5)
			s.Locks[at] = lockOf(no)
			wantSysOk(t, s, known || no == 0)
			s.Locks[at] = lockOf(10, no)
			wantSysOk(t, s, known && no != 10)
			s.Locks[at] = lockOf(10, 20, no, 60)
			wantSysOk(t, s, known && no != 10 && no != 20 && no != 60)
		}
	}
	for _, no := range noNos() {
		s.Locks = fiveLocks(lockOf(no))
		wantSysOk(t, s, no == 0)
		s.Locks = fiveLocks(lockOf(10, no))
		wantSysOk(t, s, false)
	}
	for _, gone := range []int{10, 20, 30, 40, 60, 80, 90} {
		wantSysOk(t, turned(busySys(), func(s *impl.Sys) { s.Tasks = without(s.Tasks, gone) }), false)
	}
	for _, free := range []int{50, 70} {
		wantSysOk(t, turned(busySys(), func(s *impl.Sys) { s.Tasks = without(s.Tasks, free) }), true)
	}
}

// Whoever has a lock and all that wait for it are of one processor; two locks
// may be of two.
func TestLocksOfTwoProcessors(t *testing.T) {
	s := bareSys(2)
	s.Tasks = []impl.Task{fairNo(1, 0), fairNo(2, 0), fairNo(3, 0), onCpu(1, fairNo(4, 0)), onCpu(1, fairNo(5, 0)), onCpu(1, fairNo(6, 0))}
	for _, locks := range [][]impl.Lock{
		{lockOf(1), lockOf(4)}, {lockOf(1, 2), lockOf(4, 5)}, {lockOf(1, 2, 3), lockOf(4, 6, 5)}, {lockOf(5, 6), lockOf(0), lockOf(3, 1)},
		{lockOf(1, 2), lockOf(2, 3), lockOf(4, 5), lockOf(5, 6)}, {lockOf(1), lockOf(1), lockOf(4), lockOf(4), lockOf(2)},
	} {
		for _, turn := range turnings(fiveLocks(locks...)) {
			s.Locks = turn
			wantSysOk(t, s, true)
		}
	}
	for _, locks := range [][]impl.Lock{
		{lockOf(1, 4)}, {lockOf(4, 1)}, {lockOf(1, 2, 4)}, {lockOf(1, 4, 2)}, {lockOf(4, 5, 1)}, {lockOf(4, 1, 5)}, {lockOf(1, 4, 5)},
		{lockOf(1, 2, 3), lockOf(4, 5), lockOf(6, 1)}, {lockOf(1, 2), lockOf(2, 4)}, {lockOf(1, 2), lockOf(2, 3), lockOf(3, 4)},
	} {
		for _, turn := range turnings(fiveLocks(locks...)) {
			s.Locks = turn
			wantSysOk(t, s, false)
		}
	}
	for owner := 1; owner <= 6; owner++ {
		for waits := 1; waits <= 6; waits++ {
			s.Locks = fiveLocks(lockOf(owner, waits))
			wantSysOk(t, s, owner != waits && (owner <= 3) == (waits <= 3))
		}
	}
}

func TestCountOfGhosts(t *testing.T) {
	for cpus := 2; cpus <= 4; cpus++ {
		for count := range 16 {
			s := bareSys(cpus)
			for i := range count {
				s.Ghosts = append(s.Ghosts, ghostOn(i%cpus, 1, 40))
			}
			wantSysOk(t, s, count <= 12 && (count+cpus-1)/cpus <= 7)
		}
	}
	wantSysOk(t, turned(fullSys(), func(s *impl.Sys) { s.Ghosts = s.Ghosts[:11] }), true)
	more := turned(fullSys(), func(s *impl.Sys) { s.Tasks, s.Locks = nil, freeLocks(5) })
	wantSysOk(t, more, true)
	wantSysOk(t, turned(more, func(s *impl.Sys) { s.Ghosts = append(s.Ghosts, ghostOn(0, 1, 40)) }), false)
}

func TestGhostsAtTheEnds(t *testing.T) {
	for cpus := 1; cpus <= 4; cpus++ {
		for before := range 3 {
			s := bareSys(cpus)
			for range before {
				s.Ghosts = append(s.Ghosts, ghostOn(0, 1, 40))
			}
			alone := func(g impl.Ghost) impl.Sys {
				return turned(s, func(s *impl.Sys) { s.Ghosts = append(s.Ghosts, g, ghostOn(0, 1, 40)) })
			}
			for _, cpu := range append(wrongCpus(), 0, 1, 2, 3) {
				wantSysOk(t, alone(ghostOn(cpu, 1, 4)), between(cpu, 0, cpus-1))
			}
			for _, until := range []int{0, 1, 7, 8, 99999, 100000, 100001, 100039, 100040} {
				wantSysOk(t, alone(impl.Ghost{S: impl.Share{Q: 1, P: 4}, Until: until}), true)
			}
			for _, until := range []int{-1, -2, -100040, 100041, 100042, 1 << 32, 1<<32 + 5, math.MinInt, math.MinInt + 1, math.MaxInt} {
				wantSysOk(t, alone(impl.Ghost{S: impl.Share{Q: 1, P: 4}, Until: until}), false)
			}
			for _, wrong := range wrongShares() {
				wantSysOk(t, alone(impl.Ghost{S: wrong, Until: 9}), false)
			}
		}
	}
	for _, right := range rightShares() {
		s := bareSys(1)
		s.Ghosts = ghosts(0, right)
		wantSysOk(t, s, true)
	}
	s := bareSys(2)
	s.Ghosts = []impl.Ghost{{}}
	wantSysOk(t, s, false)
}

// parts have a sum, and whether it is at most one.
func parts() []struct {
	list []impl.Share
	fit  bool
} {
	return []struct {
		list []impl.Share
		fit  bool
	}{
		{nil, true}, {repeated(impl.Share{Q: 1, P: 1}, 1), true}, {repeated(impl.Share{Q: 40, P: 40}, 1), true},
		{[]impl.Share{{Q: 1, P: 2}, {Q: 1, P: 3}, {Q: 1, P: 6}}, true}, {[]impl.Share{{Q: 1, P: 2}, {Q: 1, P: 3}, {Q: 1, P: 5}}, false},
		{repeated(impl.Share{Q: 1, P: 7}, 7), true}, {append(repeated(impl.Share{Q: 1, P: 7}, 6), impl.Share{Q: 1, P: 6}), false},
		{[]impl.Share{{Q: 39, P: 40}, {Q: 1, P: 40}}, true}, {[]impl.Share{{Q: 39, P: 40}, {Q: 1, P: 39}}, false},
		{[]impl.Share{{Q: 1, P: 1}, {Q: 1, P: 40}}, false}, {repeated(impl.Share{Q: 1, P: 3}, 3), true}, {repeated(impl.Share{Q: 1, P: 3}, 4), false},
		{repeated(impl.Share{Q: 1, P: 40}, 7), true}, {repeated(impl.Share{Q: 1, P: 40}, 8), false}, {repeated(impl.Share{Q: 1, P: 40}, 12), false},
		{[]impl.Share{{Q: 1, P: 2}, {Q: 1, P: 4}, {Q: 1, P: 8}, {Q: 1, P: 16}, {Q: 1, P: 32}, {Q: 1, P: 32}}, true},
		{[]impl.Share{{Q: 1, P: 2}, {Q: 1, P: 4}, {Q: 1, P: 8}, {Q: 1, P: 16}, {Q: 1, P: 32}, {Q: 1, P: 31}}, false},
	}
}

// The same parts count alike as tasks, as ghosts, and as some of both.
func TestPartsOfOneProcessor(t *testing.T) {
	for _, p := range parts() {
		for cpu := range 4 {
			for tasks := range len(p.list) + 1 {
				s := bareSys(4)
				s.Tasks, s.Ghosts = dues(1, cpu, p.list[:tasks]...), ghosts(cpu, p.list[tasks:]...)
				wantSysOk(t, s, p.fit)
				wantShares(t, s, cpu, p.list...)
				// of a task neither the state, nor what is left and up to when, counts
				for i := range s.Tasks {
					s.Tasks[i] = idle(asleep(changed(changed(s.Tasks[i], "Left", 0), "Due", 0)))
				}
				wantSysOk(t, s, p.fit)
				// nor does it how long a ghost still is
				for i := range s.Ghosts {
					s.Ghosts[i].Until = 0
				}
				s.Now = 100000
				wantSysOk(t, s, p.fit)
			}
		}
	}
}

func TestTheSamePartsOnTwoProcessors(t *testing.T) {
	for _, p := range parts() {
		if len(p.list) > 6 {
			continue
		}
		for _, other := range []int{1, 3} {
			s := bareSys(4)
			s.Tasks = append(dues(1, 0, p.list...), dues(20, other, p.list...)...)
			wantSysOk(t, s, p.fit)
			s = bareSys(4)
			s.Ghosts = append(ghosts(other, p.list...), ghosts(0, p.list...)...)
			wantSysOk(t, s, p.fit)
			s = bareSys(4)
			s.Tasks, s.Ghosts = dues(1, other, p.list...), ghosts(0, p.list...)
			wantSysOk(t, s, p.fit)
		}
		// too much on the one is not made up for by nothing on the other
		s := bareSys(2)
		s.Tasks, s.Ghosts = dues(1, 1, p.list...), ghosts(0, impl.Share{Q: 1, P: 40})
		wantSysOk(t, s, p.fit)
	}
	s := bareSys(2)
	s.Tasks, s.Ghosts = dues(1, 0, repeated(impl.Share{Q: 1, P: 40}, 7)...), ghosts(1, repeated(impl.Share{Q: 1, P: 40}, 7)...)
	wantSysOk(t, s, true)
	s.Ghosts[0].Cpu = 0
	wantSysOk(t, s, false)
}

// Tasks of the other classes have no part.
func TestOthersTakeNothingOfTheWhole(t *testing.T) {
	s := bareSys(1)
	s.Tasks = []impl.Task{partNo(1, 0, 1, 1)}
	for no := 2; no <= 12; no++ {
		s.Tasks = append(s.Tasks, changed([]impl.Task{fixedNo(no, 20, 0), fairNo(no, 0)}[no%2], "No", no))
	}
	wantSysOk(t, s, true)
	wantShares(t, s, 0, impl.Share{Q: 1, P: 1})
	s.Tasks[11] = partNo(12, 0, 1, 40)
	wantSysOk(t, s, false)
}

func TestFloorsOfASystem(t *testing.T) {
	for _, s := range rightSystems() {
		wantSysOk(t, turned(s, func(s *impl.Sys) { s.Floors = s.Floors[:s.Cpus-1] }), false)
		wantSysOk(t, turned(s, func(s *impl.Sys) { s.Floors = append(s.Floors, 0) }), false)
		wantSysOk(t, turned(s, func(s *impl.Sys) { s.Floors = nil }), false)
		for cpu := range s.Cpus {
			for _, floor := range rightVs() {
				wantSysOk(t, turned(s, func(s *impl.Sys) { s.Floors[cpu] = floor }), true)
			}
			for _, floor := range wrongVs() {
				wantSysOk(t, turned(s, func(s *impl.Sys) { s.Floors[cpu] = floor }), false)
			}
		}
	}
}

// What stands in the trace is not asked, only how much of it there is.
func TestTracesOfASystem(t *testing.T) {
	odd := impl.Turn{Cpu: math.MinInt, Context: -1, Executor: math.MaxInt}
	for _, s := range rightSystems() {
		for _, count := range []int{0, 1, 2, 399, 400} {
			wantSysOk(t, turned(s, func(s *impl.Sys) { s.Trace = make([]impl.Turn, count) }), true)
			wantSysOk(t, turned(s, func(s *impl.Sys) { s.Trace = slices.Repeat([]impl.Turn{odd}, count) }), true)
		}
		for _, count := range []int{401, 402, 500, 20000} {
			wantSysOk(t, turned(s, func(s *impl.Sys) { s.Trace = make([]impl.Turn, count) }), false)
		}
	}
}

func TestSharesOnEachProcessor(t *testing.T) {
	s := busySys()
	wantShares(t, s, 0, impl.Share{Q: 1, P: 2}, impl.Share{Q: 1, P: 5}, impl.Share{Q: 1, P: 10}, impl.Share{Q: 1, P: 40})
	wantShares(t, s, 1, impl.Share{Q: 2, P: 3}, impl.Share{Q: 1, P: 4})
	wantShares(t, s, 2, impl.Share{Q: 1, P: 1})
	for _, cpu := range append(wrongCpus(), 3) {
		wantShares(t, s, cpu)
	}
	s.Tasks, s.Locks = nil, freeLocks(5)
	wantShares(t, s, 0, impl.Share{Q: 1, P: 10}, impl.Share{Q: 1, P: 40})
	wantShares(t, s, 2)
	s = busySys()
	s.Ghosts = nil
	wantShares(t, s, 0, impl.Share{Q: 1, P: 2}, impl.Share{Q: 1, P: 5})
	wantShares(t, s, 1, impl.Share{Q: 2, P: 3})
}

// Wrong systems have shares too: of every ClDue and every ghost of that number.
func TestSharesOnInWrongSystems(t *testing.T) {
	for _, cpu := range append(wrongCpus(), 0, 3) {
		s := impl.Sys{
			Tasks: []impl.Task{
				{Class: 1, Cpu: cpu, Q: 9, P: 3}, partNo(9, cpu, 1, 3), partNo(8, cpu, 1, 4), partNo(8, cpu, 1, 5), onCpu(cpu, fairNo(7, 0)),
				{Class: 4, Cpu: cpu, Q: 1, P: 2}, {Class: 1, Cpu: cpu ^ 1, Q: 1, P: 2}, {Class: 1, Cpu: cpu, Q: math.MinInt, P: math.MaxInt},
				{Class: 2, Cpu: cpu, Q: 1, P: 2}, {Class: 0, Cpu: cpu, Q: 1, P: 2}, {Class: 1, Cpu: cpu},
			},
			Ghosts: []impl.Ghost{{Cpu: cpu}, ghostOn(cpu^1, 1, 7), {Cpu: cpu, S: impl.Share{Q: math.MaxInt, P: -1}, Until: -1}, ghostOn(cpu, 1, 8)},
		}
		wantShares(t, s, cpu, impl.Share{Q: 9, P: 3}, impl.Share{Q: 1, P: 3}, impl.Share{Q: 1, P: 4}, impl.Share{Q: 1, P: 5},
			impl.Share{Q: math.MinInt, P: math.MaxInt}, impl.Share{}, impl.Share{}, impl.Share{Q: math.MaxInt, P: -1}, impl.Share{Q: 1, P: 8})
		wantSysOk(t, s, false)
	}
	long := impl.Sys{Tasks: slices.Repeat([]impl.Task{partNo(1, 2, 3, 4)}, 5000), Ghosts: slices.Repeat([]impl.Ghost{ghostOn(2, 5, 6)}, 5000)}
	wantShares(t, long, 2, append(repeated(impl.Share{Q: 3, P: 4}, 5000), repeated(impl.Share{Q: 5, P: 6}, 5000)...)...)
	wantShares(t, long, 1)
	wantSysOk(t, long, false)
}

func TestSharesOnGivesNewMemoryEachTime(t *testing.T) {
	s := busySys()
	one, two := impl.SharesOn(s, 0), impl.SharesOn(s, 0)
	for i := range one {
		one[i] = impl.Share{}
	}
	one = append(one, impl.Share{Q: 7, P: 7})
	if len(one) != 5 || !slices.Equal(two, sharesByWord(s, 0)) || !sameSys(s, busySys()) {
		t.Errorf("%v and %v of %+v", one, two, s)
	}
}

func TestSameCpuOfEachLock(t *testing.T) {
	s := busySys()
	cpus := map[int]int{10: 0, 20: 0, 30: 0, 40: 1, 50: 1, 60: 1, 70: 2, 80: 2, 90: 0}
	for no, cpu := range cpus {
		for i, owner := range []int{30, 0, 20, 60, 80} {
			wantSameCpu(t, s, i, no, owner == 0 || cpus[owner] == cpu)
		}
	}
	// of who has it, of one of the same processor, of one of another
	wantSameCpu(t, s, 0, 30, true)
	wantSameCpu(t, s, 0, 90, true)
	wantSameCpu(t, s, 0, 40, false)
	wantSameCpu(t, s, 4, 70, true)
	wantSameCpu(t, s, 4, 10, false)
}

func TestSameCpuWithoutALock(t *testing.T) {
	for _, s := range []impl.Sys{busySys(), turned(busySys(), func(s *impl.Sys) { s.Locks = freeLocks(5) })} {
		wantSameCpu(t, s, 0, 10, true)
		for _, i := range noPlaces(5) {
			for _, no := range []int{10, 40, 70, 0, 5} {
				wantSameCpu(t, s, i, no, false)
			}
		}
	}
	for count := range 8 {
		s := turned(busySys(), func(s *impl.Sys) { s.Locks = freeLocks(count) })
		for i := -1; i <= 8; i++ {
			wantSameCpu(t, s, i, 70, between(i, 0, count-1))
		}
	}
}

func TestSameCpuOfWhoIsNoTask(t *testing.T) {
	for _, no := range append(noNos(), 1, 5, 11, 100, 1000) {
		for i := -1; i <= 5; i++ {
			wantSameCpu(t, busySys(), i, no, false)
			wantSameCpu(t, bareSys(4), i, no, false)
		}
		// nor is its owner one, as long as there is an owner
		s := turned(busySys(), func(s *impl.Sys) { s.Locks[1].Owner = no })
		for _, task := range s.Tasks {
			wantSameCpu(t, s, 1, task.No, no == 0)
		}
		wantSameCpu(t, s, 1, no, false)
	}
}

// Wrong systems are asked by the same words: the first task of a number counts,
// whatever it is.
func TestSameCpuInWrongSystems(t *testing.T) {
	for _, cpu := range append(wrongCpus(), 0) {
		s := impl.Sys{Cpus: -1, Tasks: []impl.Task{{No: 9, Cpu: cpu}, {No: -3, Cpu: cpu}, {No: 9, Cpu: cpu ^ 1}, {No: 4, Cpu: cpu ^ 1}, {Cpu: cpu ^ 1}},
			Locks: []impl.Lock{lockOf(9), lockOf(-3, 0, 0), lockOf(4), lockOf(0, 9), lockOf(5), lockOf(math.MinInt), lockOf(9)}}
		for i, same := range [][]int{{9, -3}, {9, -3}, {4, 0}, {9, -3, 4, 0}, nil, nil, {9, -3}} {
			for _, no := range []int{9, -3, 4, 0, 5, math.MinInt} {
				wantSameCpu(t, s, i, no, slices.Contains(same, no))
			}
		}
		wantSysOk(t, s, false)
	}
	long := impl.Sys{Tasks: append(make([]impl.Task, 5000), fairNo(7, 0), onCpu(1, fairNo(8, 0))), Locks: slices.Repeat([]impl.Lock{lockOf(7, 8)}, 5000)}
	wantSameCpu(t, long, 4999, 7, true)
	wantSameCpu(t, long, 4999, 8, false)
	wantSameCpu(t, long, 5000, 7, false)
}

func TestFloorOnEachProcessor(t *testing.T) {
	for cpu, floor := range []int{30, 12, 0} {
		wantFloorOn(t, busySys(), cpu, floor)
	}
	for cpu := range 4 {
		wantFloorOn(t, fullSys(), cpu, mostV)
	}
	for _, s := range rightSystems() {
		for _, cpu := range noPlaces(s.Cpus) {
			wantFloorOn(t, s, cpu, 0)
		}
	}
}

// Wrong systems tell the floors that stand there, however many and whatever
// they are.
func TestFloorOnInWrongSystems(t *testing.T) {
	floors := []int{5, -1, mostV + 1, math.MinInt, math.MaxInt, 7}
	for _, cpus := range []int{-1, 0, 1, 4, 6, math.MinInt, math.MaxInt} {
		for count := range len(floors) + 1 {
			s := impl.Sys{Cpus: cpus, Floors: floors[:count]}
			for cpu, floor := range s.Floors {
				wantFloorOn(t, s, cpu, floor)
			}
			for _, cpu := range noPlaces(count) {
				wantFloorOn(t, s, cpu, 0)
			}
		}
	}
}

// sys is right more often than not.
func (n *numbers) sys() impl.Sys {
	cpus := 1 + n.below(4)
	s := impl.Sys{Now: n.below(100001), Cpus: cpus, Locks: freeLocks(5), Seq: n.below(1000001), Missed: n.below(3), Trace: make([]impl.Turn, n.below(401))}
	for i := range n.below(13) {
		no, share := i+1, n.share(6)
		task := []impl.Task{partNo(no, 0, share.Q, share.P), fixedNo(no, 1+n.below(20), n.below(9)), fairNo(no, n.below(50))}[n.below(3)]
		s.Tasks = append(s.Tasks, onCpu(n.below(cpus), task))
	}
	for range n.below(5) {
		s.Ghosts = append(s.Ghosts, impl.Ghost{Cpu: n.below(cpus), S: n.share(4), Until: n.below(100041)})
	}
	for range cpus {
		s.Floors = append(s.Floors, n.below(mostV+1))
	}
	for range n.below(8) {
		no := 1 + n.below(12)
		i := n.below(5)
		if n.below(6) == 0 || impl.SameCpu(s, i, no) {
			s.Locks, _ = impl.LockAsk(s.Locks, i, no)
		}
	}
	return s
}

// worsen makes one thing of it another one, often a wrong one.
func (n *numbers) worsen(s *impl.Sys) {
	odd := n.oneOf(-1, 0, 1, 3, 4, 12, 13, 100000, 100001, 1000000, 1000001, mostV, mostV+1, math.MinInt, math.MaxInt)
	switch n.below(12) {
	case 0:
		s.Now = odd
	case 1:
		s.Cpus = n.oneOf(odd, s.Cpus-1, s.Cpus+1)
	case 2:
		s.Seq = odd
	case 3:
		s.Missed = odd
	case 4:
		s.Floors[n.below(len(s.Floors))] = odd
	case 5:
		s.Floors = append(s.Floors, odd)
	case 6:
		s.Trace = make([]impl.Turn, 399+n.below(4))
	case 7:
		s.Ghosts = append(s.Ghosts, impl.Ghost{Cpu: n.oneOf(odd, 0, s.Cpus), S: n.share(40), Until: n.oneOf(9, odd, 100040, 100041)})
	case 8:
		s.Tasks = append(s.Tasks, onCpu(n.below(5), partNo(20, 0, 1+n.below(3), 3)))
	case 9:
		s.Locks[n.below(5)].Owner = n.oneOf(1, 2, 3, 1000, odd)
	case 10:
		lock := &s.Locks[n.below(5)]
		lock.Waits = append(lock.Waits, n.oneOf(1, 2, 3, 1000, odd))
	case 11:
		s.Locks = append(s.Locks, lockOf(0))[:4+n.below(3)]
	}
}

func TestManySystemsByWord(t *testing.T) {
	var n numbers
	right, wrong := 0, 0
	for range 20000 {
		s := n.sys()
		if n.below(3) == 0 {
			n.worsen(&s)
		}
		wantSysByWord(t, s, []int{-1, 0, 1, 2, 3, 4}, []int{-1, n.below(5), 5}, []int{0, 1 + n.below(12), 1 + n.below(12)})
		if sysOkByWord(s) {
			right++
		} else {
			wrong++
		}
	}
	if min(right, wrong) < 4000 {
		t.Errorf("too few of one kind to tell: %d right, %d wrong", right, wrong)
	}
}

// Promise 9: what is counted on a processor fits.
func TestWhatIsCountedOnAProcessorFits(t *testing.T) {
	var n numbers
	right, over := 0, 0
	for range 20000 {
		s := n.sys()
		if !impl.SysOk(s) {
			continue
		}
		right++
		for cpu := range s.Cpus {
			counted := impl.SharesOn(s, cpu)
			if !impl.Fits(counted) || unitsOfAll(counted) > unit || len(counted) > 7 {
				t.Fatalf("on %d of %+v: %v", cpu, s, counted)
			}
			// one more is right just where it fits too
			share := n.share(40)
			fits := len(counted) < 7 && unitsOfAll(counted)+unitsOf(share) <= unit
			wantSysOk(t, turned(s, func(s *impl.Sys) { s.Ghosts = append(s.Ghosts, ghosts(cpu, share)...) }), fits)
			if task := partNo(1000, cpu, share.Q, share.P); len(s.Tasks) < 12 {
				wantSysOk(t, turned(s, func(s *impl.Sys) { s.Tasks = append(s.Tasks, task) }), fits)
			}
			if !fits {
				over++
			}
		}
	}
	if min(right, over) < 3000 {
		t.Errorf("too few to tell: %d right, %d over", right, over)
	}
}

// What is right stays right where one ghost, or one task without a lock, is no
// more.
func TestRightSystemsStayRightWithLess(t *testing.T) {
	var n numbers
	for range 5000 {
		s := n.sys()
		if !impl.SysOk(s) {
			continue
		}
		for at := range s.Ghosts {
			wantSysOk(t, turned(s, func(s *impl.Sys) { s.Ghosts = slices.Delete(s.Ghosts, at, at+1) }), true)
		}
		for _, task := range s.Tasks {
			tied := impl.OwnsAny(s.Locks, task.No) || impl.WaitAt(s.Locks, task.No) >= 0
			wantSysOk(t, turned(s, func(s *impl.Sys) { s.Tasks = without(s.Tasks, task.No) }), !tied)
		}
	}
}

func TestSystemsAtTheEndsOfInt(t *testing.T) {
	for _, end := range []int{math.MinInt, math.MaxInt} {
		s := impl.Sys{
			Now: end, Cpus: end, Seq: end, Missed: end,
			Tasks:  []impl.Task{{No: end, Class: end, Cpu: end, State: end, Q: end, P: end, Left: end, Due: end}, {No: end, Class: 1, Cpu: end, Q: end, P: end}},
			Locks:  []impl.Lock{lockOf(end, end), lockOf(end), lockOf(0), lockOf(1), lockOf(-end)},
			Ghosts: []impl.Ghost{{Cpu: end, S: impl.Share{Q: end, P: end}, Until: end}},
			Floors: []int{end, end},
			Trace:  []impl.Turn{{Cpu: end, Context: end, Executor: end}},
		}
		wantSysOk(t, s, false)
		wantShares(t, s, end, impl.Share{Q: end, P: end}, impl.Share{Q: end, P: end})
		wantShares(t, s, 0)
		wantSameCpu(t, s, 0, end, true)
		wantSameCpu(t, s, end, end, false)
		wantFloorOn(t, s, 1, end)
		wantFloorOn(t, s, end, 0)
	}
}

// Lists of one system that lie in one piece of memory are asked as all others.
func TestSystemsWhoseListsShareMemory(t *testing.T) {
	room := []int{10, 20, 30, 40, 50, 60}
	s := impl.Sys{Cpus: 1, Tasks: hikers(), Locks: freeLocks(5), Floors: room[:1]}
	s.Locks[0] = impl.Lock{Owner: 10, Waits: room[1:3]}
	s.Locks[1] = impl.Lock{Owner: 20, Waits: room[3:6]}
	if !impl.SysOk(s) || impl.FloorOn(s, 0) != 10 || !slices.Equal(room, []int{10, 20, 30, 40, 50, 60}) {
		t.Errorf("%+v of %v", s, room)
	}
	s.Locks[1].Waits = room[2:6]
	wantSysOk(t, s, false)
}

func TestSystemsKeepNothing(t *testing.T) {
	for range 3 {
		wantSysOk(t, busySys(), true)
		wantSysOk(t, impl.Sys{}, false)
		wantShares(t, busySys(), 2, impl.Share{Q: 1, P: 1})
		wantShares(t, bareSys(3), 2)
		wantSameCpu(t, busySys(), 3, 40, true)
		wantSameCpu(t, busySys(), 3, 10, false)
		wantFloorOn(t, busySys(), 0, 30)
		wantFloorOn(t, bareSys(1), 0, 0)
		if s, ok := impl.SysNew(2); !ok || !sameSys(s, bareSys(2)) {
			t.Error(s, ok)
		}
		if s, ok := impl.SysNew(0); ok || !sameSys(s, impl.Sys{}) {
			t.Error(s, ok)
		}
	}
}
