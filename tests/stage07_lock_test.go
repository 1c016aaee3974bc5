package tests

import (
	"math"
	"slices"
	"testing"

	"loop.example/g00185/impl"
)

func lockOf(owner int, waits ...int) impl.Lock { return impl.Lock{Owner: owner, Waits: waits} }

func freeLocks(count int) []impl.Lock { return make([]impl.Lock, count) }

// trail is the longest chain that count locks allow: 20 waits for 10, 30 for
// 20, and so on.
func trail(count int) []impl.Lock {
	list := freeLocks(count)
	for i := range list {
		list[i] = lockOf(10*(i+1), 10*(i+2))
	}
	return list
}

// ring is a trail whose end waits for its beginning.
func ring(count int) []impl.Lock {
	list := trail(count)
	list[count-1].Waits = []int{10}
	return list
}

// trailFrom is the chain in trail of 10*from.
func trailFrom(from int) []int {
	var chain []int
	for k := from; k >= 1; k-- {
		chain = append(chain, 10*k)
	}
	return chain
}

// turnings are the orders that one comes to by turning the list, forward and back.
func turnings(list []impl.Lock) [][]impl.Lock {
	back := slices.Clone(list)
	slices.Reverse(back)
	var all [][]impl.Lock
	for at := range list {
		all = append(all, slices.Concat(list[at:], list[:at]), slices.Concat(back[at:], back[:at]))
	}
	return all
}

func upTo(count int) []int {
	list := make([]int, count)
	for i := range list {
		list[i] = 1 + i
	}
	return list
}

func rightNos() []int { return []int{1, 2, 5, 10, 20, 30, 60, 70, 500, 999, 1000} }

func noNos() []int {
	return []int{0, -1, -2, -10, -1000, 1001, 1002, 2000, 1 << 32, 1<<32 + 10, -1 << 32, math.MinInt, math.MinInt + 1, math.MinInt + 10,
		math.MaxInt - 1, math.MaxInt}
}

func noPlaces(count int) []int {
	return []int{-1, -2, -5, count, count + 1, count + 5, 1 << 32, -1 << 32, math.MinInt, math.MinInt + 1, math.MaxInt - 1, math.MaxInt}
}

// rightLocks are lists of none, of one and of more, with nobody, one and many
// that wait.
func rightLocks() [][]impl.Lock {
	lists := [][]impl.Lock{nil, {}, {lockOf(0)}, {lockOf(10)}, {lockOf(10, 20)}, {lockOf(10, 20, 30)}, {lockOf(10, 30, 20)},
		{{Owner: 10, Waits: []int{}}}, {{Waits: []int{}}}, {lockOf(1, 1000)}, {lockOf(1000, 1)},
		{lockOf(10), lockOf(10)}, {lockOf(10), lockOf(10), lockOf(10), lockOf(10), lockOf(10)},
		{lockOf(10, 20), lockOf(10, 30), lockOf(10, 60)},
		{lockOf(10, 20, 30), lockOf(0), lockOf(20, 60), lockOf(0), lockOf(500)},
		{lockOf(10, 1, 2, 5), lockOf(5, 20, 30), lockOf(30, 60, 70), lockOf(1, 500), lockOf(500, 999, 1000)},
		// 10 has two, for both of which others wait that have others
		{lockOf(10, 20), lockOf(20, 30), lockOf(10, 60), lockOf(60, 70), lockOf(70)},
	}
	for count := 1; count <= 5; count++ {
		lists = append(lists, freeLocks(count))
		lists = append(lists, turnings(trail(count))...)
	}
	return lists
}

// wrongLocks are lists of each way in which one is not LocksOk.
func wrongLocks() [][]impl.Lock {
	lists := [][]impl.Lock{freeLocks(6), freeLocks(7), freeLocks(100), trail(6), trail(50), slices.Repeat([]impl.Lock{lockOf(10)}, 6),
		append(trail(5), lockOf(0)),
		{lockOf(10, 20, 20)}, {lockOf(10, 20, 30, 20)}, {lockOf(10, 30, 20, 20)}, {lockOf(10, 20), lockOf(30, 20)},
		{lockOf(10, 20), lockOf(10, 20)}, {lockOf(10, 60, 20), lockOf(0), lockOf(30, 70, 20)},
		{lockOf(10, 20), lockOf(5), lockOf(0), lockOf(1, 2), lockOf(30, 20)},
		{lockOf(0, 20)}, {lockOf(0, 20, 30)}, {lockOf(10), lockOf(0, 20)}, {lockOf(0, 20), lockOf(10)}, {lockOf(0, 20), lockOf(20)},
		{lockOf(0, 0)}, {lockOf(10, 10)}, {lockOf(10, 20, 10)}, {lockOf(10, 10, 20)}, {lockOf(10), lockOf(10, 10)},
		{lockOf(1000, upTo(1000)...)}, {lockOf(1000, append(upTo(999), 1)...)},
	}
	for _, no := range noNos() {
		for _, list := range [][]impl.Lock{{lockOf(10)}, trail(3), trail(5), {lockOf(10, 20, 30), lockOf(0), lockOf(20)}} {
			for at := range list {
				if no != 0 {
					owned := slices.Clone(list)
					owned[at].Owner = no
					lists = append(lists, owned)
				}
				for place := range len(list[at].Waits) + 1 {
					waited := slices.Clone(list)
					waited[at].Waits = slices.Insert(slices.Clone(list[at].Waits), place, no)
					lists = append(lists, waited)
				}
			}
		}
	}
	return append(lists, roundLocks()...)
}

// roundLocks go round: rings alone, beside others, and with others that lead
// into them.
func roundLocks() [][]impl.Lock {
	var lists [][]impl.Lock
	for count := 1; count <= 5; count++ {
		lists = append(lists, turnings(ring(count))...)
		busy := ring(count)
		busy[0].Waits = append([]int{500}, busy[0].Waits...)
		lists = append(lists, turnings(busy)...)
		if count < 5 {
			lists = append(lists, turnings(append(ring(count), lockOf(0)))...)
			lists = append(lists, turnings(append(ring(count), lockOf(500, 999)))...)
			tailed := append(ring(count), lockOf(500, 999))
			tailed[0].Waits = append(tailed[0].Waits, 500)
			lists = append(lists, turnings(tailed)...)
		}
	}
	return append(lists, slices.Concat(ring(2), []impl.Lock{lockOf(500, 600), lockOf(600, 500)}))
}

func copyLocks(list []impl.Lock) []impl.Lock {
	same := slices.Clone(list)
	for i := range same {
		same[i].Waits = slices.Clone(same[i].Waits)
	}
	return same
}

// sameLocks takes nil and an empty list for the same.
func sameLocks(a []impl.Lock, b []impl.Lock) bool {
	return slices.EqualFunc(a, b, func(x impl.Lock, y impl.Lock) bool {
		return x.Owner == y.Owner && slices.Equal(x.Waits, y.Waits)
	})
}

// roomy is the list with room behind it and behind each Waits, and a look that
// tells whether all of that is as it was.
func roomy(list []impl.Lock) ([]impl.Lock, func() bool) {
	locks := append(copyLocks(list), lockOf(77, 78), lockOf(79), lockOf(80))
	rooms := make([][]int, len(list))
	for i := range list {
		rooms[i] = append(slices.Clone(list[i].Waits), -77, -78, -79)
		locks[i].Waits = rooms[i][:len(list[i].Waits)]
	}
	was, roomsWere := copyLocks(locks), make([][]int, len(rooms))
	for i := range rooms {
		roomsWere[i] = slices.Clone(rooms[i])
	}
	return locks[:len(list)], func() bool {
		return sameLocks(locks, was) && slices.EqualFunc(rooms, roomsWere, slices.Equal)
	}
}

// wantOwnMemory writes into all of the answer and behind it: neither what was
// handed in nor another list of the answer may turn by that.
func wantOwnMemory(t *testing.T, what string, answer []impl.Lock, asItWas func() bool) {
	t.Helper()
	if !asItWas() {
		t.Fatalf("%s wrote into its argument", what)
	}
	for i := range answer {
		others := copyLocks(answer)
		waits := answer[i].Waits
		for k := range waits {
			waits[k] = -55
		}
		behind := append(waits, -56, -57)
		others[i].Waits = slices.Clone(waits)
		if !sameLocks(answer, others) || !asItWas() {
			t.Fatalf("%s: Waits %d shares memory: %v", what, i, behind)
		}
	}
	for i := range answer {
		answer[i] = lockOf(-58, -59)
	}
	answer = append(answer, lockOf(-60))
	if !asItWas() {
		t.Fatalf("%s shares memory with its argument: %v", what, answer)
	}
}

func wantLocksOk(t *testing.T, list []impl.Lock, want bool) {
	t.Helper()
	given, asItWas := roomy(list)
	if got := impl.LocksOk(given); got != want {
		t.Errorf("LocksOk(%v) = %t", list, got)
	}
	if !asItWas() {
		t.Errorf("LocksOk(%v) wrote into it", list)
	}
}

func wantWaitAt(t *testing.T, list []impl.Lock, no int, want int) {
	t.Helper()
	given, asItWas := roomy(list)
	if got := impl.WaitAt(given, no); got != want {
		t.Errorf("WaitAt(%v, %d) = %d; want %d", list, no, got, want)
	}
	if !asItWas() {
		t.Errorf("WaitAt(%v, %d) wrote into the list", list, no)
	}
}

func wantOwnsAny(t *testing.T, list []impl.Lock, no int, want bool) {
	t.Helper()
	given, asItWas := roomy(list)
	if got := impl.OwnsAny(given, no); got != want {
		t.Errorf("OwnsAny(%v, %d) = %t", list, no, got)
	}
	if !asItWas() {
		t.Errorf("OwnsAny(%v, %d) wrote into the list", list, no)
	}
}

func wantChain(t *testing.T, list []impl.Lock, no int, want ...int) {
	t.Helper()
	given, asItWas := roomy(list)
	got := impl.ChainOf(given, no)
	if !slices.Equal(got, want) {
		t.Errorf("ChainOf(%v, %d) = %v; want %v", list, no, got, want)
	}
	for i := range got {
		got[i] = -55
	}
	if got = append(got, -56); !asItWas() {
		t.Errorf("ChainOf(%v, %d) shares memory with the list: %v", list, no, got)
	}
}

func wantAsk(t *testing.T, list []impl.Lock, i int, no int, want []impl.Lock, code int) {
	t.Helper()
	given, asItWas := roomy(list)
	got, how := impl.LockAsk(given, i, no)
	if how != code || !sameLocks(got, want) {
		t.Errorf("LockAsk(%v, %d, %d) = %v, %d; want %v, %d", list, i, no, got, how, want, code)
	}
	wantOwnMemory(t, "LockAsk", got, asItWas)
}

// wantNotAsked asks for the list as it was beside the code.
func wantNotAsked(t *testing.T, list []impl.Lock, i int, no int, code int) {
	t.Helper()
	wantAsk(t, list, i, no, list, code)
}

func wantFree(t *testing.T, list []impl.Lock, i int, no int, next int, want []impl.Lock) {
	t.Helper()
	wantFreeing(t, list, i, no, next, want, true)
}

func wantNotFree(t *testing.T, list []impl.Lock, i int, no int, next int) {
	t.Helper()
	wantFreeing(t, list, i, no, next, list, false)
}

func wantFreeing(t *testing.T, list []impl.Lock, i int, no int, next int, want []impl.Lock, wantOk bool) {
	t.Helper()
	given, asItWas := roomy(list)
	got, ok := impl.LockFree(given, i, no, next)
	if ok != wantOk || !sameLocks(got, want) {
		t.Errorf("LockFree(%v, %d, %d, %d) = %v, %t; want %v, %t", list, i, no, next, got, ok, want, wantOk)
	}
	wantOwnMemory(t, "LockFree", got, asItWas)
}

// The functions named ByWord are the chapter's words once more.
func waitAtByWord(list []impl.Lock, no int) int {
	return slices.IndexFunc(list, func(l impl.Lock) bool { return slices.Contains(l.Waits, no) })
}

func ownsByWord(list []impl.Lock, no int) bool {
	return no != 0 && slices.ContainsFunc(list, func(l impl.Lock) bool { return l.Owner == no })
}

func locksOkByWord(list []impl.Lock) bool {
	if len(list) > 5 {
		return false
	}
	var all []int
	for _, l := range list {
		if !between(l.Owner, 0, 1000) || l.Owner == 0 && len(l.Waits) > 0 {
			return false
		}
		all = append(all, l.Waits...)
	}
	for i, no := range all {
		if !between(no, 1, 1000) || slices.Contains(all[:i], no) {
			return false
		}
	}
	for _, no := range all {
		// whoever has passed a hundred locks of five goes round
		passed := 0
		for at := waitAtByWord(list, no); at >= 0 && passed < 100; at = waitAtByWord(list, no) {
			no = list[at].Owner
			passed++
		}
		if passed == 100 {
			return false
		}
	}
	return true
}

func chainByWord(list []impl.Lock, no int) []int {
	if !locksOkByWord(list) {
		return nil
	}
	at := waitAtByWord(list, no)
	if at < 0 {
		return []int{no}
	}
	return append([]int{no}, chainByWord(list, list[at].Owner)...)
}

func askByWord(list []impl.Lock, i int, no int) ([]impl.Lock, int) {
	if !locksOkByWord(list) {
		return nil, impl.LkBad
	}
	next := copyLocks(list)
	if !between(i, 0, len(list)-1) || !between(no, 1, 1000) || waitAtByWord(list, no) >= 0 {
		return next, impl.LkBad
	}
	if list[i].Owner == no {
		return next, impl.LkMine
	}
	if list[i].Owner == 0 {
		next[i].Owner = no
		return next, impl.LkTook
	}
	if slices.Contains(chainByWord(list, list[i].Owner), no) {
		return next, impl.LkCycle
	}
	next[i].Waits = append(next[i].Waits, no)
	return next, impl.LkWaits
}

func freeByWord(list []impl.Lock, i int, no int, next int) ([]impl.Lock, bool) {
	if !locksOkByWord(list) {
		return nil, false
	}
	freed := copyLocks(list)
	if !between(i, 0, len(list)-1) || no == 0 || list[i].Owner != no {
		return freed, false
	}
	at := slices.Index(list[i].Waits, next)
	if at < 0 && (len(list[i].Waits) > 0 || next != 0) {
		return freed, false
	}
	freed[i].Owner = next
	if at >= 0 {
		freed[i].Waits = slices.Delete(freed[i].Waits, at, at+1)
	}
	return freed, true
}

func wantAllByWord(t *testing.T, list []impl.Lock, is []int, nos []int) {
	t.Helper()
	wantLocksOk(t, list, locksOkByWord(list))
	for _, no := range nos {
		wantWaitAt(t, list, no, waitAtByWord(list, no))
		wantOwnsAny(t, list, no, ownsByWord(list, no))
		wantChain(t, list, no, chainByWord(list, no)...)
		for _, i := range is {
			want, code := askByWord(list, i, no)
			wantAsk(t, list, i, no, want, code)
			for _, next := range nos {
				want, ok := freeByWord(list, i, no, next)
				wantFreeing(t, list, i, no, next, want, ok)
			}
		}
	}
}

func TestLockConstants(t *testing.T) {
	if impl.MaxLocks != 5 {
		t.Error(impl.MaxLocks)
	}
	codes := [5]int{impl.LkTook, impl.LkWaits, impl.LkBad, impl.LkMine, impl.LkCycle}
	if codes != [5]int{0, 1, 2, 3, 4} {
		t.Error(codes)
	}
}

func TestLocksOkOfRightOnes(t *testing.T) {
	for _, list := range rightLocks() {
		if !locksOkByWord(list) {
			t.Errorf("%v is no right one", list)
		}
		wantLocksOk(t, list, true)
	}
}

func TestLocksOkOfWrongOnes(t *testing.T) {
	for _, list := range wrongLocks() {
		if locksOkByWord(list) {
			t.Errorf("%v is a right one", list)
		}
		wantLocksOk(t, list, false)
	}
}

func TestLocksOkOfMaxLocksAndOneMore(t *testing.T) {
	for count := range 6 {
		wantLocksOk(t, freeLocks(count), true)
	}
	wantLocksOk(t, freeLocks(6), false)
	wantLocksOk(t, trail(5), true)
	wantLocksOk(t, trail(6), false)
	wantLocksOk(t, make([]impl.Lock, 100000), false)
}

func TestLocksOkOfOwnersAtTheEnds(t *testing.T) {
	for _, no := range []int{0, 1, 999, 1000} {
		for at := range 5 {
			list := freeLocks(5)
			list[at].Owner = no
			wantLocksOk(t, list, true)
		}
	}
	for _, no := range noNos()[1:] {
		for at := range 5 {
			list := freeLocks(5)
			list[at].Owner = no
			wantLocksOk(t, list, false)
			list[at].Waits = []int{20}
			wantLocksOk(t, list, false)
		}
	}
}

func TestLocksOkOfWaitsAtTheEnds(t *testing.T) {
	for _, no := range []int{1, 2, 999, 1000} {
		wantLocksOk(t, []impl.Lock{lockOf(10, no)}, true)
		wantLocksOk(t, []impl.Lock{lockOf(10, 20, no, 30)}, true)
	}
	for _, no := range noNos() {
		for place := range 4 {
			waits := slices.Insert([]int{20, 30, 60}, place, no)
			wantLocksOk(t, []impl.Lock{lockOf(10, waits...)}, false)
			wantLocksOk(t, []impl.Lock{lockOf(5), lockOf(10, waits...), lockOf(0)}, false)
		}
	}
}

// All that there may be wait for one; one more can only be there twice, be the
// Owner, or be no number.
func TestLocksOkOfAsManyAsThereMayBe(t *testing.T) {
	others := upTo(999)
	wantLocksOk(t, []impl.Lock{lockOf(1000, others...)}, true)
	for _, one := range []int{1, 500, 999, 1000, 1001, 0} {
		wantLocksOk(t, []impl.Lock{lockOf(1000, append(slices.Clone(others), one)...)}, false)
	}
	back := slices.Clone(others)
	slices.Reverse(back)
	wantLocksOk(t, []impl.Lock{lockOf(1000, back...)}, true)
	wantLocksOk(t, []impl.Lock{lockOf(1000, back[:500]...), lockOf(1000, back[500:]...)}, true)
	wantLocksOk(t, []impl.Lock{lockOf(1000, back[:500]...), lockOf(1000, back[499:]...)}, false)
	wantLocksOk(t, []impl.Lock{lockOf(1000, slices.Repeat([]int{7}, 100000)...)}, false)
}

func TestLocksOkOfTheSameOneTwice(t *testing.T) {
	for first := range 5 {
		for second := range 5 {
			list := []impl.Lock{lockOf(1), lockOf(2), lockOf(3), lockOf(4), lockOf(5)}
			list[first].Waits = []int{20, 30}
			wantLocksOk(t, list, true)
			list[second].Waits = append(list[second].Waits, 30)
			wantLocksOk(t, list, false)
		}
	}
}

// Nobody waits where nobody has it: with each number, and at each place.
func TestLocksOkWhereNobodyIsOwner(t *testing.T) {
	for at := range 5 {
		list := freeLocks(5)
		list[at].Waits = []int{20}
		wantLocksOk(t, list, false)
		list[at].Owner = 10
		wantLocksOk(t, list, true)
		list[(at+1)%5].Owner = 20
		wantLocksOk(t, list, true)
		list[at].Owner = 0
		wantLocksOk(t, list, false)
		list[at].Waits = []int{}
		wantLocksOk(t, list, true)
	}
}

func TestLocksOkOfRings(t *testing.T) {
	for _, list := range roundLocks() {
		wantLocksOk(t, list, false)
	}
	for count := 1; count <= 5; count++ {
		for _, list := range turnings(trail(count)) {
			wantLocksOk(t, list, true)
		}
		// a ring that is opened at any place is none
		for at := range count {
			list := ring(count)
			list[at].Waits = nil
			wantLocksOk(t, list, true)
			list = ring(count)
			list[at].Waits = []int{500}
			wantLocksOk(t, list, true)
			list = ring(count)
			list[at].Owner = 500
			wantLocksOk(t, list, true)
		}
	}
}

func TestWaitAtAndOwnsAnyOfFew(t *testing.T) {
	list := []impl.Lock{lockOf(10, 20, 30), lockOf(0), lockOf(20, 60), lockOf(1000, 1), lockOf(10)}
	cases := []struct {
		no, at int
		owns   bool
	}{
		{10, -1, true}, {20, 0, true}, {30, 0, false}, {60, 2, false}, {1000, -1, true}, {1, 3, false}, {5, -1, false}, {999, -1, false},
	}
	for _, c := range cases {
		wantWaitAt(t, list, c.no, c.at)
		wantOwnsAny(t, list, c.no, c.owns)
	}
	for _, no := range noNos() {
		wantWaitAt(t, list, no, -1)
		wantOwnsAny(t, list, no, false)
	}
}

func TestWaitAtAndOwnsAnyOfNothing(t *testing.T) {
	for _, list := range [][]impl.Lock{nil, {}, {lockOf(0)}, freeLocks(5), {{Waits: []int{}}}, freeLocks(100)} {
		for _, no := range append(noNos(), rightNos()...) {
			wantWaitAt(t, list, no, -1)
			wantOwnsAny(t, list, no, false)
		}
	}
}

// The list need not be right: the first lock counts, and any number is told,
// but nobody with the number 0 owns.
func TestWaitAtAndOwnsAnyOfWrongLists(t *testing.T) {
	for _, no := range append(noNos(), rightNos()...) {
		twice := []impl.Lock{lockOf(3), lockOf(0, 4, no), lockOf(no, 4, 3), lockOf(0, no, no), lockOf(no, 4)}
		wantWaitAt(t, twice, no, 1)
		wantOwnsAny(t, twice, no, no != 0)
		wantWaitAt(t, []impl.Lock{lockOf(no, no)}, no, 0)
		wantOwnsAny(t, []impl.Lock{lockOf(3, no)}, no, false)
		many := freeLocks(1000)
		many[800].Waits, many[900].Waits, many[999].Owner = []int{no}, []int{no}, no
		wantWaitAt(t, many, no, 800)
		wantOwnsAny(t, many, no, no != 0)
	}
	for _, list := range wrongLocks() {
		for _, no := range append(noNos(), rightNos()...) {
			wantWaitAt(t, list, no, waitAtByWord(list, no))
			wantOwnsAny(t, list, no, ownsByWord(list, no))
		}
	}
}

func TestChainOfFew(t *testing.T) {
	list := []impl.Lock{lockOf(10, 20, 30), lockOf(30, 1000, 2), lockOf(20, 60), lockOf(60, 70), lockOf(10)}
	wantChain(t, list, 10, 10)
	wantChain(t, list, 20, 20, 10)
	wantChain(t, list, 30, 30, 10)
	wantChain(t, list, 60, 60, 20, 10)
	wantChain(t, list, 70, 70, 60, 20, 10)
	wantChain(t, list, 1000, 1000, 30, 10)
	wantChain(t, list, 2, 2, 30, 10)
	wantChain(t, list, 5, 5)
}

func TestChainOfTrails(t *testing.T) {
	for count := 1; count <= 5; count++ {
		for _, list := range turnings(trail(count)) {
			for from := 1; from <= count+1; from++ {
				wantChain(t, list, 10*from, trailFrom(from)...)
			}
			wantChain(t, list, 10*(count+2), 10*(count+2))
		}
	}
}

// Whoever does not wait is its whole chain, also one that can be no task.
func TestChainOfWhoDoesNotWait(t *testing.T) {
	for _, list := range rightLocks() {
		for _, no := range noNos() {
			wantChain(t, list, no, no)
		}
		for _, no := range rightNos() {
			if waitAtByWord(list, no) < 0 {
				wantChain(t, list, no, no)
			}
		}
	}
}

func TestChainOfWrongLists(t *testing.T) {
	for _, list := range wrongLocks() {
		for _, no := range append(noNos(), rightNos()...) {
			wantChain(t, list, no)
		}
	}
}

func TestLockAskTakes(t *testing.T) {
	for _, no := range []int{1, 2, 999, 1000} {
		for at := range 5 {
			want := freeLocks(5)
			want[at].Owner = no
			wantAsk(t, freeLocks(5), at, no, want, impl.LkTook)
		}
		wantAsk(t, []impl.Lock{{Waits: []int{}}}, 0, no, []impl.Lock{lockOf(no)}, impl.LkTook)
	}
	// who has another one, for which somebody waits, may take a second one
	list := []impl.Lock{lockOf(10, 20), lockOf(0), lockOf(5)}
	wantAsk(t, list, 1, 10, []impl.Lock{lockOf(10, 20), lockOf(10), lockOf(5)}, impl.LkTook)
	wantNotAsked(t, list, 1, 20, impl.LkBad)
}

func TestLockAskWaitsBehindAllOthers(t *testing.T) {
	wantAsk(t, []impl.Lock{lockOf(10)}, 0, 20, []impl.Lock{lockOf(10, 20)}, impl.LkWaits)
	wantAsk(t, []impl.Lock{lockOf(10, 30)}, 0, 20, []impl.Lock{lockOf(10, 30, 20)}, impl.LkWaits)
	wantAsk(t, []impl.Lock{lockOf(10, 30, 1)}, 0, 20, []impl.Lock{lockOf(10, 30, 1, 20)}, impl.LkWaits)
	wantAsk(t, []impl.Lock{lockOf(10, 1)}, 0, 1000, []impl.Lock{lockOf(10, 1, 1000)}, impl.LkWaits)
	wantAsk(t, []impl.Lock{lockOf(10, 1000)}, 0, 1, []impl.Lock{lockOf(10, 1000, 1)}, impl.LkWaits)
	list := []impl.Lock{lockOf(5, 1), lockOf(10, 30), lockOf(20, 60), lockOf(0), lockOf(30)}
	want := copyLocks(list)
	want[1].Waits = []int{30, 20}
	wantAsk(t, list, 1, 20, want, impl.LkWaits)
	wantAsk(t, []impl.Lock{lockOf(1000, upTo(998)...)}, 0, 999, []impl.Lock{lockOf(1000, upTo(999)...)}, impl.LkWaits)
}

func TestLockAskOfOnesOwn(t *testing.T) {
	for _, no := range []int{1, 10, 999, 1000} {
		wantNotAsked(t, []impl.Lock{lockOf(no)}, 0, no, impl.LkMine)
		wantNotAsked(t, []impl.Lock{lockOf(0), lockOf(no, 30, 20)}, 1, no, impl.LkMine)
	}
	for count := 1; count <= 5; count++ {
		wantNotAsked(t, trail(count), 0, 10, impl.LkMine)
		// all other owners of a trail wait already
		for i := 1; i < count; i++ {
			wantNotAsked(t, trail(count), i, 10*(i+1), impl.LkBad)
		}
	}
}

func TestLockAskThatWouldGoRound(t *testing.T) {
	for count := 2; count <= 5; count++ {
		// the last lock of this trail nobody waits for
		list := trail(count)
		list[count-1].Waits = nil
		for i := 1; i < count; i++ {
			wantNotAsked(t, list, i, 10, impl.LkCycle)
		}
		back := slices.Clone(list)
		slices.Reverse(back)
		wantNotAsked(t, back, 0, 10, impl.LkCycle)
		for i := range count {
			want := copyLocks(list)
			want[i].Waits = append(want[i].Waits, 500)
			wantAsk(t, list, i, 500, want, impl.LkWaits)
		}
	}
	// over an owner of two, and from who has something else too
	list := []impl.Lock{lockOf(10, 20), lockOf(20), lockOf(20, 30), lockOf(30), lockOf(10)}
	wantNotAsked(t, list, 1, 10, impl.LkCycle)
	wantNotAsked(t, list, 2, 10, impl.LkCycle)
	wantNotAsked(t, list, 3, 10, impl.LkCycle)
	wantNotAsked(t, list, 4, 10, impl.LkMine)
	wantNotAsked(t, list, 3, 20, impl.LkBad)
}

func TestLockAskOfWhoWaitsAlready(t *testing.T) {
	list := []impl.Lock{lockOf(10, 20, 30), lockOf(20), lockOf(0), lockOf(5, 60)}
	for _, no := range []int{20, 30, 60} {
		// this lock, another one, a free one, one of its own
		for i := range list {
			wantNotAsked(t, list, i, no, impl.LkBad)
		}
	}
}

func TestLockAskWithoutALock(t *testing.T) {
	for _, list := range rightLocks() {
		for _, i := range noPlaces(len(list)) {
			for _, no := range append(noNos(), rightNos()...) {
				wantNotAsked(t, list, i, no, impl.LkBad)
			}
		}
	}
	for count := 1; count <= 5; count++ {
		last := freeLocks(count)
		last[count-1].Owner = 10
		wantAsk(t, freeLocks(count), count-1, 10, last, impl.LkTook)
		wantNotAsked(t, freeLocks(count), count, 10, impl.LkBad)
		wantNotAsked(t, freeLocks(count), -1, 10, impl.LkBad)
	}
}

func TestLockAskOfNobody(t *testing.T) {
	for _, list := range rightLocks() {
		for i := range list {
			for _, no := range noNos() {
				wantNotAsked(t, list, i, no, impl.LkBad)
			}
		}
	}
}

func TestLockFreeToNobody(t *testing.T) {
	for _, no := range []int{1, 10, 999, 1000} {
		for at := range 5 {
			list := freeLocks(5)
			list[at].Owner = no
			wantFree(t, list, at, no, 0, freeLocks(5))
			for _, next := range append(noNos()[1:], rightNos()...) {
				wantNotFree(t, list, at, no, next)
			}
		}
		wantFree(t, []impl.Lock{{Owner: no, Waits: []int{}}}, 0, no, 0, []impl.Lock{lockOf(0)})
	}
}

func TestLockFreeToEachThatWaits(t *testing.T) {
	list := []impl.Lock{lockOf(5, 60), lockOf(10, 30, 1, 1000, 20), lockOf(20, 70), lockOf(10)}
	rest := map[int][]int{30: {1, 1000, 20}, 1: {30, 1000, 20}, 1000: {30, 1, 20}, 20: {30, 1, 1000}}
	for next, waits := range rest {
		want := copyLocks(list)
		want[1] = lockOf(next, waits...)
		wantFree(t, list, 1, 10, next, want)
		wantLocksOk(t, want, true)
	}
	wantFree(t, []impl.Lock{lockOf(10, 20)}, 0, 10, 20, []impl.Lock{lockOf(20)})
	wantFree(t, []impl.Lock{lockOf(10, 1000)}, 0, 10, 1000, []impl.Lock{lockOf(1000)})
	wantFree(t, []impl.Lock{lockOf(10, 1)}, 0, 10, 1, []impl.Lock{lockOf(1)})
}

func TestLockFreeToWhoDoesNotWaitForIt(t *testing.T) {
	list := []impl.Lock{lockOf(10, 20, 30), lockOf(5, 60), lockOf(20, 70), lockOf(10), lockOf(0)}
	// 0, who waits for another lock, the Owner, who waits for none
	for _, next := range append(noNos(), 60, 70, 10, 5, 1, 999, 1000) {
		wantNotFree(t, list, 0, 10, next)
	}
	for _, next := range append(noNos()[1:], rightNos()...) {
		wantNotFree(t, list, 3, 10, next)
	}
	wantFree(t, list, 3, 10, 0, []impl.Lock{list[0], list[1], list[2], lockOf(0), lockOf(0)})
	wantFree(t, list, 0, 10, 20, []impl.Lock{lockOf(20, 30), list[1], list[2], list[3], list[4]})
	wantFree(t, list, 1, 5, 60, []impl.Lock{list[0], lockOf(60), list[2], list[3], list[4]})
}

// Also one that waits itself may free what it has.
func TestLockFreeAlongATrail(t *testing.T) {
	for count := 1; count <= 5; count++ {
		for i := range count {
			list := trail(count)
			want := copyLocks(list)
			want[i] = lockOf(10 * (i + 2))
			wantFree(t, list, i, 10*(i+1), 10*(i+2), want)
			for _, next := range []int{0, 10 * (i + 1), 10 * (i + 3), 500} {
				wantNotFree(t, list, i, 10*(i+1), next)
			}
		}
	}
}

func TestLockFreeByWhoIsNotItsOwner(t *testing.T) {
	list := []impl.Lock{lockOf(10, 20, 30), lockOf(5, 60), lockOf(20), lockOf(0)}
	for i, lock := range list {
		for _, no := range append(noNos(), rightNos()...) {
			if no != 0 && no == lock.Owner {
				continue
			}
			for _, next := range append(noNos(), rightNos()...) {
				wantNotFree(t, list, i, no, next)
			}
		}
	}
	// nobody frees what nobody has
	wantNotFree(t, freeLocks(5), 2, 0, 0)
}

func TestLockFreeWithoutALock(t *testing.T) {
	for _, list := range rightLocks() {
		for _, i := range noPlaces(len(list)) {
			for _, no := range []int{math.MinInt, -1, 0, 1, 10, 20, 1000, 1001, math.MaxInt} {
				for _, next := range []int{math.MinInt, -1, 0, 1, 20, 30, 1000, 1001, math.MaxInt} {
					wantNotFree(t, list, i, no, next)
				}
			}
		}
	}
	for count := 1; count <= 5; count++ {
		last := freeLocks(count)
		last[count-1].Owner = 10
		wantFree(t, last, count-1, 10, 0, freeLocks(count))
		wantNotFree(t, last, count, 10, 0)
		wantNotFree(t, last, -1, 10, 0)
	}
}

// Of a list that is not right nothing is handed back, whatever else is asked.
func TestNothingOfWrongLists(t *testing.T) {
	nos := []int{math.MinInt, -1, 0, 1, 10, 20, 30, 500, 1000, 1001, math.MaxInt}
	for _, list := range wrongLocks() {
		for _, i := range []int{math.MinInt, -1, 0, 1, len(list) - 1, len(list), math.MaxInt} {
			for _, no := range nos {
				wantAsk(t, list, i, no, nil, impl.LkBad)
				for _, next := range []int{0, 10, 20, 30, 1000} {
					wantFreeing(t, list, i, no, next, nil, false)
				}
			}
		}
	}
}

func TestRightLocksByWord(t *testing.T) {
	for _, list := range rightLocks() {
		is := append(noPlaces(len(list))[:4], 0, len(list)/2, len(list)-1)
		wantAllByWord(t, list, is, append(noNos()[:2], 1, 2, 5, 10, 20, 30, 40, 60, 70, 1000, 1001))
	}
}

// smallLocks are all locks of three tasks with at most two that wait.
func smallLocks() []impl.Lock {
	var list []impl.Lock
	for owner := range 4 {
		list = append(list, lockOf(owner))
		for a := 1; a <= 3; a++ {
			list = append(list, lockOf(owner, a))
			for b := 1; b <= 3; b++ {
				list = append(list, lockOf(owner, a, b))
			}
		}
	}
	return list
}

func TestAllSmallListsByWord(t *testing.T) {
	right := 0
	for _, a := range smallLocks() {
		for _, b := range smallLocks() {
			list := []impl.Lock{a, b}
			if locksOkByWord(list) {
				right++
				wantAllByWord(t, list, []int{-1, 0, 1, 2}, []int{0, 1, 2, 3, 4})
			}
			for _, c := range smallLocks() {
				three := []impl.Lock{a, b, c}
				if impl.LocksOk(three) != locksOkByWord(three) {
					t.Fatalf("LocksOk(%v) = %t", three, impl.LocksOk(three))
				}
			}
		}
	}
	if right < 50 {
		t.Error("too few to tell", right)
	}
}

// locks are of few tasks, so that rings come often; now and then a number is
// none.
func (n *numbers) locks() []impl.Lock {
	list := freeLocks(n.below(7))
	next := 1 + n.below(3)
	for i := range list {
		list[i].Owner = n.below(9)
		if list[i].Owner == 0 && n.below(10) > 0 {
			continue
		}
		for range n.below(3) {
			list[i].Waits = append(list[i].Waits, next)
			next++
		}
		if n.below(20) == 0 && len(list[i].Waits) > 0 {
			list[i].Waits[n.below(len(list[i].Waits))] = n.oneOf(0, 1, 2, 3, 1000, 1001, -1, math.MinInt, math.MaxInt)
		}
		if n.below(30) == 0 {
			list[i].Owner = n.oneOf(-1, 1000, 1001, math.MinInt, math.MaxInt)
		}
	}
	for i := range list {
		j := n.below(len(list))
		list[i], list[j] = list[j], list[i]
	}
	return list
}

func TestManyListsByWord(t *testing.T) {
	var n numbers
	right, codes, freed := 0, [5]int{}, 0
	for range 30000 {
		list := n.locks()
		i, no, next := n.below(len(list)+2)-1, n.below(11), n.below(11)
		if between(i, 0, len(list)-1) && n.below(3) > 0 {
			// who has this one, or who has any
			no = list[n.oneOf(i, n.below(len(list)))].Owner
			if len(list[i].Waits) > 0 && n.below(2) == 0 {
				next = list[i].Waits[n.below(len(list[i].Waits))]
			}
		}
		wantAllByWord(t, list, []int{i}, []int{no, next})
		if locksOkByWord(list) {
			right++
			_, code := askByWord(list, i, no)
			codes[code]++
			if _, ok := freeByWord(list, i, no, next); ok {
				freed++
			}
		}
	}
	if right < 3000 || right > 27000 || slices.Min(codes[:]) < 50 || freed < 300 {
		t.Errorf("too few of one kind to tell: %d right, codes %v, %d freed", right, codes, freed)
	}
}

// wantAllComeToAnEnd is promise 7: whoever waits waits for one that can be come
// to, and that does not wait itself.
func wantAllComeToAnEnd(t *testing.T, list []impl.Lock) {
	t.Helper()
	if !impl.LocksOk(list) {
		t.Fatalf("%v is not right", list)
	}
	for at, lock := range list {
		for _, no := range lock.Waits {
			chain := impl.ChainOf(list, no)
			if len(chain) < 2 || len(chain) > 6 || chain[0] != no || chain[1] != lock.Owner || impl.WaitAt(list, no) != at {
				t.Fatalf("%v: %d has the chain %v", list, no, chain)
			}
			last := chain[len(chain)-1]
			if impl.WaitAt(list, last) != -1 || !impl.OwnsAny(list, last) {
				t.Fatalf("%v: %d comes to %d", list, no, last)
			}
		}
	}
}

// Promise 7: whatever is asked and freed from free locks on.
func TestWhoeverWaitsWaitsForOneThatCanBeComeTo(t *testing.T) {
	var n numbers
	codes, freed, longest := [5]int{}, 0, 0
	for range 400 {
		list := freeLocks(1 + n.below(5))
		for range 60 {
			i, no := n.below(len(list)), 1+n.below(9)
			if n.below(4) > 0 {
				next, code := impl.LockAsk(list, i, no)
				if unchanged := sameLocks(next, list); unchanged != (code > impl.LkWaits) {
					t.Fatalf("LockAsk(%v, %d, %d) = %v, %d", list, i, no, next, code)
				}
				codes[code]++
				list = next
			} else {
				to := 0
				if waits := list[i].Waits; len(waits) > 0 {
					to = waits[n.below(len(waits))]
				}
				next, ok := impl.LockFree(list, i, list[i].Owner, to)
				if ok != (list[i].Owner != 0) || ok && (next[i].Owner != to || slices.Contains(next[i].Waits, to)) {
					t.Fatalf("LockFree(%v, %d, to %d) = %v, %t", list, i, to, next, ok)
				}
				if ok {
					freed++
				}
				list = next
			}
			wantAllComeToAnEnd(t, list)
			for no := range 10 {
				longest = max(longest, len(impl.ChainOf(list, no)))
			}
		}
	}
	if slices.Min(codes[:]) < 50 || freed < 500 || longest < 5 {
		t.Errorf("too few of one kind to tell: %v, %d freed, longest chain %d", codes, freed, longest)
	}
}

// Where a wait would go round it is refused, and only there: were it let in, the
// list would not be right.
func TestCyclesAreRefusedJustWhereTheyAre(t *testing.T) {
	for _, list := range rightLocks() {
		for i := range list {
			for _, no := range rightNos() {
				_, code := impl.LockAsk(list, i, no)
				forced := copyLocks(list)
				forced[i].Waits = append(forced[i].Waits, no)
				right := impl.LocksOk(forced)
				if (code == impl.LkWaits) != right {
					t.Errorf("LockAsk(%v, %d, %d) tells %d; with it waiting LocksOk is %t", list, i, no, code, right)
				}
			}
		}
	}
}

func TestLocksAreFreedInAnyOrder(t *testing.T) {
	list := freeLocks(5)
	for _, no := range []int{10, 20, 30, 40} {
		list, _ = impl.LockAsk(list, 2, no)
	}
	if !sameLocks(list, []impl.Lock{lockOf(0), lockOf(0), lockOf(10, 20, 30, 40), lockOf(0), lockOf(0)}) {
		t.Fatal(list)
	}
	owner := 10
	for _, next := range []int{30, 40, 20, 0} {
		var ok bool
		list, ok = impl.LockFree(list, 2, owner, next)
		if !ok || list[2].Owner != next {
			t.Fatal(next, list, ok)
		}
		owner = next
	}
	if !sameLocks(list, freeLocks(5)) {
		t.Error(list)
	}
}

// An answer that is handed in again and again keeps to itself: what grew out of
// one list does not grow into another that came of the same.
func TestListsThatComeOfOneListAreApart(t *testing.T) {
	base, _ := impl.LockAsk([]impl.Lock{lockOf(10, 1, 2, 3)}, 0, 20)
	left, _ := impl.LockAsk(base, 0, 30)
	right, _ := impl.LockAsk(base, 0, 40)
	freed, _ := impl.LockFree(base, 0, 10, 1)
	if !sameLocks(base, []impl.Lock{lockOf(10, 1, 2, 3, 20)}) || !sameLocks(left, []impl.Lock{lockOf(10, 1, 2, 3, 20, 30)}) ||
		!sameLocks(right, []impl.Lock{lockOf(10, 1, 2, 3, 20, 40)}) || !sameLocks(freed, []impl.Lock{lockOf(1, 2, 3, 20)}) {
		t.Error(base, left, right, freed)
	}
}

// Locks whose lists lie in one memory are handed back with lists of their own.
func TestLocksThatShareTheirWaits(t *testing.T) {
	room := []int{20, 30, 60, 70, -1}
	list := []impl.Lock{{Owner: 10, Waits: room[:2]}, {Owner: 5, Waits: room[2:4]}}
	got, code := impl.LockAsk(list, 0, 1000)
	want := []impl.Lock{lockOf(10, 20, 30, 1000), lockOf(5, 60, 70)}
	if code != impl.LkWaits || !sameLocks(got, want) || !slices.Equal(room, []int{20, 30, 60, 70, -1}) {
		t.Error(got, code, room)
	}
	got, ok := impl.LockFree(list, 0, 10, 20)
	want = []impl.Lock{lockOf(20, 30), lockOf(5, 60, 70)}
	if !ok || !sameLocks(got, want) || !slices.Equal(room, []int{20, 30, 60, 70, -1}) {
		t.Error(got, ok, room)
	}
}

func TestLocksKeepNothing(t *testing.T) {
	list := []impl.Lock{lockOf(10, 20, 30), lockOf(20), lockOf(0)}
	for range 3 {
		wantLocksOk(t, list, true)
		wantLocksOk(t, ring(3), false)
		wantWaitAt(t, list, 20, 0)
		wantWaitAt(t, nil, 20, -1)
		wantChain(t, list, 30, 30, 10)
		wantChain(t, nil, 30, 30)
		wantOwnsAny(t, list, 20, true)
		wantOwnsAny(t, list[:1], 20, false)
		wantNotAsked(t, list, 1, 10, impl.LkCycle)
		wantAsk(t, list, 2, 10, []impl.Lock{lockOf(10, 20, 30), lockOf(20), lockOf(10)}, impl.LkTook)
		wantFree(t, list, 0, 10, 30, []impl.Lock{lockOf(30, 20), lockOf(20), lockOf(0)})
		wantNotFree(t, list, 0, 10, 0)
	}
}
