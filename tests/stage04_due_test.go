package tests

import (
	"math"
	"slices"
	"testing"

	"loop.example/g00185/impl"
)

// dueWith has numbers in every other field too, so that one that is lost shows.
func dueWith(q int, p int, left int, due int) impl.Task {
	return impl.Task{No: 700, Class: 1, Cpu: 3, State: 2, Idle: true, Q: q, P: p, Left: left, Due: due}
}

func wrongTimes() []int {
	return []int{-1, -2, -10, -100000, 100001, 100002, 100040, 100041, 1 << 32, 1<<32 + 5, math.MinInt, math.MinInt + 1,
		math.MaxInt - 1, math.MaxInt}
}

// tasksThatAreNotDue are wrong ones of every class, and right ones of the others.
func tasksThatAreNotDue() []impl.Task {
	list := []impl.Task{fixedTask(), fairTask(), {Idle: true}}
	for _, no := range []int{5, 0, -1, 1001, math.MinInt, math.MaxInt} {
		list = append(list, wrongTasks(no)...)
	}
	for _, t := range []impl.Task{fixedTask(), fairTask()} {
		list = append(list, changed(t, "State", 1), changed(t, "State", 2), changed(t, "No", 1), changed(t, "No", 1000))
	}
	list = append(list, changed(changed(changed(fixedTask(), "Round", 0), "Left", 0), "Seq", 0))
	for _, t := range []impl.Task{dueTask(), dueWith(4, 10, 2, 0), dueWith(1, 1, 0, 100040)} {
		list = append(list, changed(t, "Left", t.Q+1), changed(t, "Left", -1), changed(t, "Due", -1), changed(t, "Due", 100041),
			changed(t, "Q", 0), changed(t, "Q", t.P+1), changed(t, "P", 0), changed(t, "P", 41), changed(t, "State", 3))
		for _, f := range taskFields() {
			list = append(list, changed(t, f.name, math.MinInt), changed(t, f.name, math.MaxInt))
			if !slices.Contains(namedBy(1), f.name) {
				list = append(list, changed(t, f.name, 1), changed(t, f.name, -1))
			}
		}
		for _, class := range []int{0, 2, 3, 4, -1, 257, 1<<32 + 1} {
			list = append(list, changed(t, "Class", class))
		}
	}
	return list
}

func wantWake(t *testing.T, task impl.Task, now int, left int, due int) {
	t.Helper()
	want := changed(changed(task, "Left", left), "Due", due)
	if got := impl.DueWake(task, now); got != want {
		t.Errorf("DueWake(%+v, %d) = %+v; want %+v", task, now, got, want)
	}
}

func wantRenew(t *testing.T, task impl.Task, now int, left int, due int) {
	t.Helper()
	want := changed(changed(task, "Left", left), "Due", due)
	if got := impl.DueRenew(task, now); got != want {
		t.Errorf("DueRenew(%+v, %d) = %+v; want %+v", task, now, got, want)
	}
}

func wantBefore(t *testing.T, a impl.Task, b impl.Task, want bool) {
	t.Helper()
	if got := impl.DueBefore(a, b); got != want {
		t.Errorf("DueBefore(%+v, %+v) = %t", a, b, got)
	}
}

// wantWithinPart is promise 4, asked of what DueWake answers.
func wantWithinPart(t *testing.T, task impl.Task, now int) {
	t.Helper()
	got := impl.DueWake(task, now)
	if !impl.TaskOk(got) || got.Due <= now || got.Left*got.P > (got.Due-now)*got.Q {
		t.Errorf("DueWake(%+v, %d) = %+v: more than its part of the time", task, now, got)
	}
	if again := impl.DueWake(got, now); again != got {
		t.Errorf("%+v woke at %d, and again, as %+v", got, now, again)
	}
}

func TestWakeAheadOfTheDeadline(t *testing.T) {
	cases := []struct{ q, p, left, due, now, wantLeft, wantDue int }{
		// 4 of each 10: 2 are the part of 5 ticks
		{4, 10, 1, 25, 20, 1, 25}, {4, 10, 2, 25, 20, 2, 25}, {4, 10, 3, 25, 20, 4, 30},
		// 0 is the part of any time
		{4, 10, 0, 25, 20, 0, 25}, {4, 10, 0, 21, 20, 0, 21}, {4, 10, 0, 30, 20, 0, 30},
		// all of it is the part of a period
		{4, 10, 4, 30, 20, 4, 30}, {4, 10, 4, 31, 20, 4, 31}, {4, 10, 4, 29, 20, 4, 30},
		// 3 of each 10: 21 by 10 are the part of 7 ticks, 9 by 10 of 3, 12 by 10 of 4
		{3, 10, 2, 27, 20, 2, 27}, {3, 10, 2, 26, 20, 3, 30}, {3, 10, 1, 23, 20, 3, 30}, {3, 10, 1, 24, 20, 1, 24},
		{3, 10, 3, 27, 20, 3, 30},
		// one tick ahead
		{1, 1, 1, 21, 20, 1, 21}, {5, 5, 1, 21, 20, 1, 21}, {5, 5, 2, 21, 20, 5, 25}, {4, 5, 1, 21, 20, 4, 25},
		{40, 40, 1, 21, 20, 1, 21}, {39, 40, 1, 21, 20, 39, 60}, {40, 40, 2, 21, 20, 40, 60},
		// far ahead
		{1, 40, 1, 60, 20, 1, 60}, {1, 40, 1, 59, 20, 1, 60}, {1, 40, 1, 100040, 20, 1, 100040},
	}
	for _, c := range cases {
		wantWake(t, dueWith(c.q, c.p, c.left, c.due), c.now, c.wantLeft, c.wantDue)
	}
}

func TestWakeAtOrBehindTheDeadline(t *testing.T) {
	for left := range 5 {
		for _, due := range []int{20, 19, 18, 10, 1, 0} {
			wantWake(t, dueWith(4, 10, left, due), 20, 4, 30)
		}
	}
	wantWake(t, dueWith(1, 1, 0, 20), 20, 1, 21)
	wantWake(t, dueWith(40, 40, 0, 20), 20, 40, 60)
	wantWake(t, dueWith(40, 40, 40, 19), 20, 40, 60)
}

func TestWakeAtTheEndsOfTime(t *testing.T) {
	for left := range 5 {
		wantWake(t, dueWith(4, 10, left, 0), 0, 4, 10)
		wantWake(t, dueWith(4, 10, left, 0), 100000, 4, 100010)
		wantWake(t, dueWith(4, 10, left, 100000), 100000, 4, 100010)
		wantWake(t, dueWith(4, 10, left, 99999), 100000, 4, 100010)
		wantWake(t, dueWith(4, 10, left, 100040), 100000, left, 100040)
		wantWake(t, dueWith(4, 10, left, 100040), 0, left, 100040)
		wantWake(t, dueWith(4, 40, left, 100000), 100000, 4, 100040)
		wantWake(t, dueWith(4, 40, left, 100040), 100000, left, 100040)
		wantWake(t, dueWith(4, 40, left, 0), 100000, 4, 100040)
	}
	wantWake(t, dueWith(4, 10, 1, 1), 0, 4, 10)
	wantWake(t, dueWith(4, 10, 2, 5), 0, 2, 5)
	wantWake(t, dueWith(4, 10, 2, 4), 0, 4, 10)
	wantWake(t, dueWith(4, 10, 4, 100009), 100000, 4, 100010)
	wantWake(t, dueWith(4, 10, 1, 100003), 100000, 1, 100003)
	wantWake(t, dueWith(4, 10, 1, 100002), 100000, 4, 100010)
	wantWake(t, dueWith(40, 40, 40, 100040), 100000, 40, 100040)
	wantWake(t, dueWith(40, 40, 40, 100039), 100000, 40, 100040)
	wantWake(t, dueWith(40, 40, 39, 100039), 100000, 39, 100039)
}

// What is left by P is just alike to, one above and one below what its part of
// the time is, for every part of time there is.
func TestWakeWithJustEnough(t *testing.T) {
	alike, above, below := 0, 0, 0
	for _, s := range rightShares() {
		for left := 0; left <= s.Q; left++ {
			for ahead := 1; ahead <= 41; ahead++ {
				task := dueWith(s.Q, s.P, left, 50+ahead)
				switch left*s.P - ahead*s.Q {
				case 0:
					wantWake(t, task, 50, left, 50+ahead)
					alike++
				case 1:
					wantWake(t, task, 50, s.Q, 50+s.P)
					above++
				case -1:
					wantWake(t, task, 50, left, 50+ahead)
					below++
				}
			}
		}
	}
	if alike < 1000 || above < 100 || below < 100 {
		t.Error("too few of one kind to tell", alike, above, below)
	}
}

func TestWakeOfEveryPart(t *testing.T) {
	for _, now := range []int{0, 1, 77, 99999, 100000} {
		for _, s := range rightShares() {
			for _, left := range []int{0, 1, s.Q / 2, s.Q - 1, s.Q} {
				for due := max(0, now-2); due <= min(now+42, 100040); due++ {
					wantWithinPart(t, dueWith(s.Q, s.P, left, due), now)
				}
				wantWithinPart(t, dueWith(s.Q, s.P, left, 0), now)
				wantWithinPart(t, dueWith(s.Q, s.P, left, 100040), now)
			}
		}
	}
}

// wokenByWord is the chapter's word once more, with its numbers written out.
func wokenByWord(task impl.Task, now int) impl.Task {
	if !rightByWord(task) || task.Class != 1 || !between(now, 0, 100000) {
		return task
	}
	over := task.Due-now < 1
	if over || task.Left*task.P-(task.Due-now)*task.Q >= 1 {
		task.Left, task.Due = task.Q, now+task.P
	}
	return task
}

func renewedByWord(task impl.Task, now int) impl.Task {
	if rightByWord(task) && task.Class == 1 && between(now, 0, 100000) && task.Due-now < 1 {
		task.Left, task.Due = task.Q, task.Due+task.P
	}
	return task
}

func spentByWord(task impl.Task) impl.Task {
	if rightByWord(task) && task.Class == 1 && task.Left >= 1 {
		task.Left--
	}
	return task
}

// time is near what is told more often than not.
func (n *numbers) time(near int) int {
	if n.below(6) == 0 {
		return n.oneOf(-1, 0, 1, 99999, 100000, 100001)
	}
	return near - 10 + n.below(14)
}

func TestManyTasksByWord(t *testing.T) {
	var n numbers
	woken, renewed, spent := 0, 0, 0
	for range 200000 {
		task := n.task()
		now := n.time(task.Due)
		wake, renew, spend := impl.DueWake(task, now), impl.DueRenew(task, now), impl.DueSpend(task)
		if wake != wokenByWord(task, now) || renew != renewedByWord(task, now) || spend != spentByWord(task) {
			t.Fatalf("%+v at %d: woken %+v, renewed %+v, spent %+v", task, now, wake, renew, spend)
		}
		if wake != task {
			woken++
		}
		if renew != task {
			renewed++
		}
		if spend != task {
			spent++
		}
	}
	if woken < 1000 || renewed < 1000 || spent < 1000 {
		t.Error("too few of one kind to tell", woken, renewed, spent)
	}
}

func TestRenewAheadOfTheDeadline(t *testing.T) {
	for left := range 5 {
		for _, due := range []int{21, 22, 25, 30, 31, 100040} {
			wantRenew(t, dueWith(4, 10, left, due), 20, left, due)
		}
		wantRenew(t, dueWith(4, 10, left, 1), 0, left, 1)
		wantRenew(t, dueWith(4, 10, left, 100001), 100000, left, 100001)
		wantRenew(t, dueWith(4, 10, left, 100040), 100000, left, 100040)
		wantRenew(t, dueWith(4, 10, left, 100040), 0, left, 100040)
	}
}

// The new deadline hangs on the old one, not on now: so it may still be past.
func TestRenewAtOrBehindTheDeadline(t *testing.T) {
	for left := range 5 {
		wantRenew(t, dueWith(4, 10, left, 20), 20, 4, 30)
		wantRenew(t, dueWith(4, 10, left, 19), 20, 4, 29)
		wantRenew(t, dueWith(4, 10, left, 10), 20, 4, 20)
		wantRenew(t, dueWith(4, 10, left, 9), 20, 4, 19)
		wantRenew(t, dueWith(4, 10, left, 0), 20, 4, 10)
		wantRenew(t, dueWith(4, 10, left, 0), 0, 4, 10)
		wantRenew(t, dueWith(4, 10, left, 0), 100000, 4, 10)
		wantRenew(t, dueWith(4, 10, left, 100000), 100000, 4, 100010)
		wantRenew(t, dueWith(4, 40, left, 100000), 100000, 4, 100040)
		wantRenew(t, dueWith(4, 40, left, 99999), 100000, 4, 100039)
	}
}

func TestRenewOfEveryPart(t *testing.T) {
	for _, now := range []int{0, 1, 77, 99999, 100000} {
		for _, s := range rightShares() {
			for _, left := range []int{0, 1, s.Q} {
				for ahead := -3; ahead <= 3; ahead++ {
					due := now + ahead
					if due < 0 {
						continue
					}
					if ahead > 0 {
						wantRenew(t, dueWith(s.Q, s.P, left, due), now, left, due)
						continue
					}
					wantRenew(t, dueWith(s.Q, s.P, left, due), now, s.Q, due+s.P)
					if !impl.TaskOk(impl.DueRenew(dueWith(s.Q, s.P, left, due), now)) {
						t.Errorf("%v renewed at %d is not right", s, now)
					}
				}
			}
		}
	}
}

func TestSpend(t *testing.T) {
	for _, s := range rightShares() {
		for left := 0; left <= s.Q; left++ {
			for _, due := range []int{0, 20, 100040} {
				task := dueWith(s.Q, s.P, left, due)
				want := changed(task, "Left", max(left-1, 0))
				if got := impl.DueSpend(task); got != want || !impl.TaskOk(got) {
					t.Errorf("DueSpend(%+v) = %+v; want %+v", task, got, want)
				}
			}
		}
	}
}

// Q ticks of each P, however often it is spent and renewed.
func TestAPartAgainAndAgain(t *testing.T) {
	for _, s := range rightShares() {
		task, _ := impl.NewDue(5, 0, s.Q, s.P, 0)
		used := 0
		for now := range 5 * s.P {
			task = impl.DueRenew(task, now)
			if task.Left > 0 {
				used++
			}
			task = impl.DueSpend(task)
			periods := now/s.P + 1
			if used > periods*s.Q || task.Due != periods*s.P || now%s.P == s.P-1 && used != periods*s.Q {
				t.Fatalf("%v used %d up to %d, as %+v", s, used, now, task)
			}
		}
	}
}

// A task that wakes whenever it can uses no more than its part and, of what it
// had, no more than one Q.
func TestWakingBringsNoMoreThanThePart(t *testing.T) {
	var n numbers
	for _, s := range rightShares() {
		task, _ := impl.NewDue(5, 0, s.Q, s.P, 0)
		used := 0
		for now := range 400 {
			if n.below(3) == 0 {
				task = impl.DueWake(task, now)
			}
			if task.Left > 0 && task.Due > now && n.below(4) > 0 {
				task = impl.DueSpend(task)
				used++
			}
			if used*s.P > (now+1)*s.Q+s.Q*s.P {
				t.Fatalf("%v used %d up to %d", s, used, now)
			}
		}
	}
}

func TestBeforeByDue(t *testing.T) {
	dues := []int{0, 1, 2, 19, 20, 21, 100000, 100039, 100040}
	for _, a := range dues {
		for _, b := range dues {
			for _, nos := range [][2]int{{1, 1000}, {1000, 1}, {7, 7}, {6, 7}, {7, 6}} {
				first, second := dueWith(4, 10, 2, a), dueWith(1, 40, 1, b)
				first.No, second.No = nos[0], nos[1]
				want := a < b
				if a == b {
					want = nos[0] < nos[1]
				}
				wantBefore(t, first, second, want)
			}
		}
	}
}

func TestBeforeByNo(t *testing.T) {
	for _, a := range []int{1, 2, 499, 500, 999, 1000} {
		for _, b := range []int{1, 2, 499, 500, 999, 1000} {
			for _, due := range []int{0, 20, 100040} {
				first, second := dueWith(4, 10, 2, due), dueWith(4, 10, 2, due)
				first.No, second.No = a, b
				wantBefore(t, first, second, a < b)
			}
		}
	}
}

// Due and No alone count: all else may be less, alike or greater.
func TestNothingElseTellsWhoIsBefore(t *testing.T) {
	task := dueTask()
	least := impl.Task{No: 5, Class: 1, Cpu: 0, State: 1, Q: 1, P: 1, Left: 0, Due: 17}
	greatest := impl.Task{No: 5, Class: 1, Cpu: 3, State: 2, Idle: true, Q: 40, P: 40, Left: 40, Due: 17}
	others := []impl.Task{task, least, greatest, changed(task, "Cpu", 0), changed(task, "Cpu", 3), changed(task, "State", 2),
		changed(task, "Q", 10), changed(task, "P", 40), changed(task, "Left", 0), changed(task, "Left", 3)}
	for _, a := range others {
		for _, b := range others {
			wantBefore(t, a, b, false)
			wantBefore(t, changed(a, "Due", 16), b, true)
			wantBefore(t, changed(a, "Due", 18), b, false)
			wantBefore(t, changed(a, "No", 4), b, true)
			wantBefore(t, changed(a, "No", 6), b, false)
			wantBefore(t, changed(changed(a, "Due", 16), "No", 1000), b, true)
			wantBefore(t, changed(changed(a, "Due", 18), "No", 1), b, false)
		}
	}
}

// Of any three, who is before one that is before another is before that one.
func TestBeforeIsAnOrder(t *testing.T) {
	var n numbers
	for range 20000 {
		var three [3]impl.Task
		for i := range three {
			three[i] = dueWith(4, 10, n.below(5), 17+n.below(3))
			three[i].No = 1 + n.below(3)
		}
		a, b, c := three[0], three[1], three[2]
		if impl.DueBefore(a, b) && impl.DueBefore(b, a) {
			t.Fatalf("%+v and %+v are before each other", a, b)
		}
		if impl.DueBefore(a, b) && impl.DueBefore(b, c) && !impl.DueBefore(a, c) {
			t.Fatalf("%+v, %+v, %+v", a, b, c)
		}
		if alike := a.Due == b.Due && a.No == b.No; alike == (impl.DueBefore(a, b) || impl.DueBefore(b, a)) {
			t.Fatalf("%+v and %+v", a, b)
		}
	}
}

func TestDueShare(t *testing.T) {
	for _, s := range rightShares() {
		for _, left := range []int{0, s.Q} {
			for _, due := range []int{0, 20, 100040} {
				if got, ok := impl.DueShare(dueWith(s.Q, s.P, left, due)); got != s || !ok {
					t.Errorf("DueShare of %v = %v, %t", s, got, ok)
				}
			}
		}
	}
	if got, ok := impl.DueShare(dueTask()); got != (impl.Share{Q: 3, P: 10}) || !ok {
		t.Error(got, ok)
	}
}

func wantLeftAsItIs(t *testing.T, task impl.Task, now int) {
	t.Helper()
	if got := impl.DueWake(task, now); got != task {
		t.Errorf("DueWake(%+v, %d) = %+v", task, now, got)
	}
	if got := impl.DueRenew(task, now); got != task {
		t.Errorf("DueRenew(%+v, %d) = %+v", task, now, got)
	}
}

func TestTasksThatAreNotDueStayAsTheyAre(t *testing.T) {
	times := append(wrongTimes(), 0, 1, 16, 17, 18, 20, 99999, 100000)
	for _, task := range tasksThatAreNotDue() {
		for _, idle := range []bool{false, true} {
			task.Idle = idle
			for _, now := range times {
				wantLeftAsItIs(t, task, now)
			}
			if got := impl.DueSpend(task); got != task {
				t.Errorf("DueSpend(%+v) = %+v", task, got)
			}
			if s, ok := impl.DueShare(task); s != (impl.Share{}) || ok {
				t.Errorf("DueShare(%+v) = %v, %t", task, s, ok)
			}
		}
	}
}

func TestTimesThatAreNone(t *testing.T) {
	for _, now := range wrongTimes() {
		for _, due := range []int{0, 1, 20, 99999, 100000, 100001, 100040} {
			for left := range 5 {
				wantLeftAsItIs(t, dueWith(4, 10, left, due), now)
			}
		}
		for _, task := range tasksOfEachClass() {
			wantLeftAsItIs(t, task, now)
		}
	}
}

func TestBeforeOfTasksThatAreNotDue(t *testing.T) {
	right := []impl.Task{dueTask(), dueWith(1, 1, 0, 0), dueWith(40, 40, 40, 100040), changed(dueWith(4, 10, 2, 0), "No", 1)}
	for _, wrong := range tasksThatAreNotDue() {
		for _, task := range right {
			wantBefore(t, wrong, task, false)
			wantBefore(t, task, wrong, false)
		}
		for _, other := range tasksThatAreNotDue() {
			wantBefore(t, wrong, other, false)
		}
	}
}

func TestDeadlinesKeepNothing(t *testing.T) {
	early, late := dueWith(4, 10, 3, 25), dueWith(4, 10, 3, 26)
	for range 3 {
		wantWake(t, early, 20, 4, 30)
		wantRenew(t, early, 25, 4, 35)
		wantBefore(t, early, late, true)
		wantBefore(t, late, early, false)
		wantBefore(t, early, early, false)
		wantLeftAsItIs(t, fairTask(), 20)
	}
}
