package impl

const (
	MaxPeriod = 40
	MaxShares = 7
)

// million bounds what Gcd takes; sums of parts go far beyond it.
const million = 1000000

type Share struct {
	Q int
	P int
}

func ShareOk(s Share) bool { return s.isRight() }

func ShareLess(a Share, b Share) bool {
	return a.isRight() && b.isRight() && a.isBelow(b)
}

func Gcd(a int, b int) int {
	if !withinMillion(a) || !withinMillion(b) {
		return 0
	}
	return commonDivisor(withoutSign(a), withoutSign(b))
}

func SumOf(list []Share) (int, int, bool) {
	if !canSum(list) {
		return 0, 0, false
	}
	sum := sumParts(list...)
	return sum.num, sum.den, true
}

func Fits(list []Share) bool {
	return canSum(list) && sumParts(list...).isAtMostOne()
}

func (s Share) isRight() bool {
	return 1 <= s.P && s.P <= MaxPeriod && 1 <= s.Q && s.Q <= s.P
}

// isBelow multiplies crosswise, for a quotient would lose something. It is
// asked of right parts only, whose products are small.
func (s Share) isBelow(other Share) bool {
	return s.Q*other.P < other.Q*s.P
}

func (s Share) asFraction() fraction {
	return fraction{num: s.Q, den: s.P}
}

// fraction is a sum of parts. Its den is above 0: at most MaxShares periods
// multiplied, which are below 2 to the 38th, so that no int runs over.
type fraction struct {
	num int
	den int
}

func (f fraction) plus(other fraction) fraction {
	return fraction{
		num: f.num*other.den + other.num*f.den,
		den: f.den * other.den,
	}.inLowestTerms()
}

// inLowestTerms can't go by Gcd: a den may be beyond a million.
func (f fraction) inLowestTerms() fraction {
	d := commonDivisor(f.num, f.den)
	return fraction{num: f.num / d, den: f.den / d}
}

func (f fraction) isAtMostOne() bool { return f.num <= f.den }

func sumParts(parts ...Share) fraction {
	sum := fraction{num: 0, den: 1}
	for _, part := range parts {
		sum = sum.plus(part.asFraction())
	}
	return sum
}

func canSum(list []Share) bool {
	if len(list) > MaxShares {
		return false
	}
	for _, s := range list {
		if !s.isRight() {
			return false
		}
	}
	return true
}

// commonDivisor wants numbers that are not below 0.
func commonDivisor(a int, b int) int {
	for b != 0 {
		a, b = b, a%b
	}
	return a
}

func withinMillion(n int) bool { return -million <= n && n <= million }

// withoutSign wants a number within bounds: the least int has no opposite.
func withoutSign(n int) int {
	if n < 0 {
		return -n
	}
	return n
}
