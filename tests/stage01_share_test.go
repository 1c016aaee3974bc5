package tests

import (
	"math"
	"slices"
	"testing"

	"loop.example/g00185/impl"
)

// unit is the least common multiple of 1 .. 40: every right part is a whole
// number of units, so sums of few parts are told without fractions.
const unit = 5342931457063200

func unitsOf(s impl.Share) int { return s.Q * (unit / s.P) }

func unitsOfAll(list []impl.Share) int {
	sum := 0
	for _, s := range list {
		sum += unitsOf(s)
	}
	return sum
}

func rightShares() []impl.Share {
	var list []impl.Share
	for p := 1; p <= 40; p++ {
		for q := 1; q <= p; q++ {
			list = append(list, impl.Share{Q: q, P: p})
		}
	}
	return list
}

func wrongShares() []impl.Share {
	return []impl.Share{
		{}, {Q: 0, P: 1}, {Q: 1, P: 0}, {Q: 0, P: 40}, {Q: -1, P: 40}, {Q: 41, P: 40}, {Q: 2, P: 1},
		{Q: 1, P: 41}, {Q: 41, P: 41}, {Q: 42, P: 41}, {Q: -1, P: -1}, {Q: -2, P: -1}, {Q: 1, P: -1},
		{Q: math.MaxInt, P: 40}, {Q: math.MinInt, P: 40}, {Q: 1, P: math.MaxInt}, {Q: 1, P: math.MinInt},
		{Q: math.MaxInt, P: math.MaxInt}, {Q: math.MinInt, P: math.MinInt},
		{Q: math.MinInt, P: math.MaxInt}, {Q: math.MaxInt, P: math.MinInt},
	}
}

func repeated(s impl.Share, times int) []impl.Share {
	return slices.Repeat([]impl.Share{s}, times)
}

// numbers gives the same numbers at every run.
type numbers uint64

func (n *numbers) below(limit int) int {
	*n = *n*6364136223846793005 + 1442695040888963407
	return int(uint64(*n>>33) % uint64(limit))
}

func (n *numbers) share(maxQ int) impl.Share {
	p := 1 + n.below(40)
	return impl.Share{Q: 1 + n.below(min(p, maxQ)), P: p}
}

func (n *numbers) shares(count int, maxQ int) []impl.Share {
	list := make([]impl.Share, count)
	for i := range list {
		list[i] = n.share(maxQ)
	}
	return list
}

func wantNoSum(t *testing.T, list []impl.Share) {
	t.Helper()
	if n, d, ok := impl.SumOf(list); n != 0 || d != 0 || ok {
		t.Errorf("SumOf(%v) = %d, %d, %t; want 0, 0, false", list, n, d, ok)
	}
	if impl.Fits(list) {
		t.Errorf("Fits(%v)", list)
	}
}

func wantSum(t *testing.T, list []impl.Share, num int, den int) {
	t.Helper()
	if n, d, ok := impl.SumOf(list); n != num || d != den || !ok {
		t.Errorf("SumOf(%v) = %d, %d, %t; want %d, %d, true", list, n, d, ok, num, den)
	}
	if got := impl.Fits(list); got != (num <= den) {
		t.Errorf("Fits(%v) = %t", list, got)
	}
}

// divisorOf is by subtraction, so that it shares nothing with what it judges.
func divisorOf(a int, b int) int {
	for a != 0 && b != 0 {
		if a < b {
			a, b = b, a
		}
		a -= b * max(1, a/b/2)
	}
	return a + b
}

func wantSumByUnits(t *testing.T, list []impl.Share) {
	t.Helper()
	whole := unitsOfAll(list)
	d := divisorOf(whole, unit)
	wantSum(t, list, whole/d, unit/d)
}

func TestShareLimits(t *testing.T) {
	if impl.MaxPeriod != 40 || impl.MaxShares != 7 {
		t.Error(impl.MaxPeriod, impl.MaxShares)
	}
}

func TestShareOk(t *testing.T) {
	for p := -3; p <= 45; p++ {
		for q := -3; q <= 45; q++ {
			want := p >= 1 && p <= 40 && q >= 1 && q <= p
			if got := impl.ShareOk(impl.Share{Q: q, P: p}); got != want {
				t.Errorf("ShareOk(%d, %d) = %t", q, p, got)
			}
		}
	}
	for _, s := range wrongShares() {
		if impl.ShareOk(s) {
			t.Errorf("ShareOk(%v)", s)
		}
	}
}

func TestShareLessOfRightParts(t *testing.T) {
	all := rightShares()
	for _, a := range all {
		for _, b := range all {
			if got := impl.ShareLess(a, b); got != (unitsOf(a) < unitsOf(b)) {
				t.Fatalf("ShareLess(%v, %v) = %t", a, b, got)
			}
		}
	}
}

func TestShareLessOfWrongParts(t *testing.T) {
	others := append(wrongShares(), impl.Share{Q: 1, P: 40}, impl.Share{Q: 1, P: 2}, impl.Share{Q: 40, P: 40})
	for _, wrong := range wrongShares() {
		for _, other := range others {
			if impl.ShareLess(wrong, other) || impl.ShareLess(other, wrong) {
				t.Errorf("ShareLess of %v and %v", wrong, other)
			}
		}
	}
}

func TestGcdOfSmallNumbers(t *testing.T) {
	for a := -60; a <= 60; a++ {
		for b := -60; b <= 60; b++ {
			want := 0
			for d := 1; d <= 60; d++ {
				if a%d == 0 && b%d == 0 && (a != 0 || b != 0) {
					want = d
				}
			}
			if got := impl.Gcd(a, b); got != want {
				t.Errorf("Gcd(%d, %d) = %d, want %d", a, b, got, want)
			}
		}
	}
}

func TestGcdEdges(t *testing.T) {
	const m = 1000000
	cases := []struct{ a, b, want int }{
		{0, 0, 0}, {7, 0, 7}, {-7, 0, 7}, {12, -18, 6}, {-12, -18, 6},
		{m, 0, m}, {-m, 0, m}, {m, m, m}, {m, -m, m}, {-m, -m, m},
		{m, m - 1, 1}, {m, 750000, 250000}, {-m, 15625, 15625}, {832040, 514229, 1}, {999983, 999979, 1},
		{m + 1, 0, 0}, {m + 1, 1, 0}, {m + 1, m + 1, 0}, {-m - 1, 0, 0}, {-m - 1, 5, 0}, {-m - 1, -m - 1, 0},
		{2 * m, 2, 0}, {math.MaxInt, 0, 0}, {math.MinInt, 0, 0}, {math.MinInt, math.MinInt, 0},
		{math.MaxInt, math.MinInt, 0}, {math.MinInt, -1, 0}, {math.MaxInt, math.MaxInt, 0}, {math.MinInt, m, 0},
	}
	for _, c := range cases {
		if got := impl.Gcd(c.a, c.b); got != c.want {
			t.Errorf("Gcd(%d, %d) = %d, want %d", c.a, c.b, got, c.want)
		}
		if got := impl.Gcd(c.b, c.a); got != c.want {
			t.Errorf("Gcd(%d, %d) = %d, want %d", c.b, c.a, got, c.want)
		}
	}
}

func TestSumOfNothing(t *testing.T) {
	wantSum(t, nil, 0, 1)
	wantSum(t, []impl.Share{}, 0, 1)
}

func TestSumOfOne(t *testing.T) {
	for _, s := range rightShares() {
		wantSumByUnits(t, []impl.Share{s})
	}
}

func TestSumOfTwo(t *testing.T) {
	all := rightShares()
	for i := 0; i < len(all); i += 7 {
		for _, b := range all {
			wantSumByUnits(t, []impl.Share{all[i], b})
		}
	}
}

func TestSumJustAtOne(t *testing.T) {
	wantSum(t, []impl.Share{{Q: 1, P: 1}}, 1, 1)
	wantSum(t, []impl.Share{{Q: 40, P: 40}}, 1, 1)
	wantSum(t, []impl.Share{{Q: 1, P: 2}, {Q: 1, P: 3}, {Q: 1, P: 6}}, 1, 1)
	wantSum(t, repeated(impl.Share{Q: 1, P: 7}, 7), 1, 1)
	wantSum(t, repeated(impl.Share{Q: 5, P: 35}, 7), 1, 1)
	wantSum(t, repeated(impl.Share{Q: 1, P: 3}, 3), 1, 1)
	wantSum(t, []impl.Share{{Q: 1, P: 40}, {Q: 39, P: 40}}, 1, 1)
}

// The sums lie one by the product of all periods beside one, which rounding
// or a divisor that ends at a million would miss.
func TestSumBesideOne(t *testing.T) {
	wantSum(t, []impl.Share{{Q: 1, P: 40}, {Q: 38, P: 39}}, 1559, 1560)
	wantSum(t, []impl.Share{{Q: 39, P: 40}, {Q: 1, P: 39}}, 1561, 1560)
	wantSum(t, []impl.Share{{Q: 1, P: 31}, {Q: 1, P: 29}, {Q: 2, P: 23}, {Q: 5, P: 17},
		{Q: 9, P: 25}, {Q: 2, P: 33}, {Q: 5, P: 38}}, 11019807149, 11019807150)
	wantSum(t, []impl.Share{{Q: 1, P: 37}, {Q: 4, P: 31}, {Q: 5, P: 29}, {Q: 2, P: 23},
		{Q: 3, P: 13}, {Q: 2, P: 9}, {Q: 5, P: 38}}, 3401407855, 3401407854)
}

func TestSumOfGreatPeriods(t *testing.T) {
	wantSum(t, repeated(impl.Share{Q: 40, P: 40}, 7), 7, 1)
	wantSum(t, repeated(impl.Share{Q: 1, P: 40}, 7), 7, 40)
	wantSum(t, repeated(impl.Share{Q: 39, P: 40}, 7), 273, 40)
	wantSumByUnits(t, []impl.Share{{Q: 39, P: 40}, {Q: 38, P: 39}, {Q: 36, P: 37}, {Q: 30, P: 31},
		{Q: 28, P: 29}, {Q: 22, P: 23}, {Q: 18, P: 19}})
}

func TestSumOfManyLists(t *testing.T) {
	var n numbers
	for range 20000 {
		wantSumByUnits(t, n.shares(n.below(8), 40))
		wantSumByUnits(t, n.shares(n.below(8), 6))
	}
}

// A last part that fills just what is left, one tick less and one tick more.
func TestFitsUpToOneAndNotBeyond(t *testing.T) {
	for p := 2; p <= 40; p++ {
		for q := 1; q < p; q++ {
			first := impl.Share{Q: q, P: p}
			wantSum(t, []impl.Share{first, {Q: p - q, P: p}}, 1, 1)
			if impl.Fits([]impl.Share{first, {Q: p - q + 1, P: p}}) {
				t.Errorf("%d and one more than what is left of %d", q, p)
			}
			if p-q > 1 && !impl.Fits([]impl.Share{first, {Q: p - q - 1, P: p}}) {
				t.Errorf("%d and one less than what is left of %d", q, p)
			}
		}
	}
}

func TestListsThatAreTooLong(t *testing.T) {
	small := impl.Share{Q: 1, P: 40}
	for length := range 8 {
		if !impl.Fits(repeated(small, length)) {
			t.Error("does not fit", length)
		}
	}
	for _, length := range []int{8, 9, 40, 41, 1000, 100000} {
		wantNoSum(t, repeated(small, length))
	}
	wantNoSum(t, make([]impl.Share, 8))
}

func TestPartsThatAreNotRight(t *testing.T) {
	for _, wrong := range wrongShares() {
		for length := 1; length <= 8; length++ {
			for at := range length {
				list := repeated(impl.Share{Q: 1, P: 40}, length)
				list[at] = wrong
				wantNoSum(t, list)
			}
			wantNoSum(t, repeated(wrong, length))
		}
	}
	wantNoSum(t, []impl.Share{{Q: -1, P: 2}, {Q: 1, P: 2}})
}

func TestWhatFitsFitsWithOneLess(t *testing.T) {
	var n numbers
	fitting := 0
	for range 5000 {
		list := n.shares(1+n.below(7), 5)
		if !impl.Fits(list) {
			continue
		}
		fitting++
		for at := range list {
			if !impl.Fits(slices.Delete(slices.Clone(list), at, at+1)) {
				t.Errorf("%v without place %d", list, at)
			}
		}
	}
	if fitting < 500 {
		t.Error("too few lists fit to tell", fitting)
	}
}

func TestSumDoesNotHangOnOrder(t *testing.T) {
	var n numbers
	for range 2000 {
		list := n.shares(7, 40)
		num, den, _ := impl.SumOf(list)
		slices.Reverse(list)
		wantSum(t, list, num, den)
	}
}

func TestSumsWriteIntoNothing(t *testing.T) {
	var n numbers
	for length := range 9 {
		room := n.shares(12, 40)
		if length > 1 {
			room[length-1] = impl.Share{Q: 5, P: 4}
		}
		before := slices.Clone(room)
		for _, list := range [][]impl.Share{room[:length], room[1 : length+1], room[2:4]} {
			impl.SumOf(list)
			impl.Fits(list)
		}
		if !slices.Equal(room, before) {
			t.Errorf("%v became %v", before, room)
		}
	}
}

func TestSumsKeepNothing(t *testing.T) {
	list := []impl.Share{{Q: 1, P: 2}, {Q: 1, P: 3}}
	for range 3 {
		wantSum(t, list, 5, 6)
		wantNoSum(t, make([]impl.Share, 1))
		wantSum(t, nil, 0, 1)
	}
}
