package units

import (
	"math/bits"

	"boule/api"
)

// wide is the integer high * 2^64 + low: a product of two numbers does not fit
// an int.
type wide struct {
	high int64
	low  uint64
}

// product returns a times b.
func product(a, b int) wide {
	high, low := bits.Mul64(uint64(a), uint64(b))
	w := wide{int64(high), low}
	// Mul64 takes a factor below 0 for one that is greater by 2^64.
	if a < 0 {
		w.high -= int64(b)
	}
	if b < 0 {
		w.high -= int64(a)
	}
	return w
}

// compare returns 1 if w is greater than v, -1 if it is less, 0 if they are equal.
func (w wide) compare(v wide) int {
	switch {
	case w == v:
		return 0
	case w.high < v.high || w.high == v.high && w.low < v.low:
		return -1
	}
	return 1
}

// floor returns the greatest integer n that is not above w divided by c, and w
// less n times c. It is not ok if n is so far out that no rounding of the
// quotient is a number.
func (w wide) floor(c int) (n, rest int, ok bool) {
	if w.high < 0 {
		// Turning all bits gives -w - 1: its quotient q and rest r stand for
		// -q - 1 and c - 1 - r.
		n, rest, ok = wide{^w.high, ^w.low}.floor(c)
		return ^n, c - 1 - rest, ok
	}
	if uint64(w.high) >= uint64(c) { // Div64 panics if the quotient exceeds 64 bits.
		return 0, 0, false
	}
	q, r := bits.Div64(uint64(w.high), w.low, uint64(c))
	if q > api.MaxNumber {
		return 0, 0, false
	}
	return int(q), int(r), true
}

// divide returns w divided by c, rounded, and what is left of w. It is not ok
// if the result is not a number.
func (w wide) divide(c int, how api.Rounding) (n, rest int, ok bool) {
	n, rest, ok = w.floor(c)
	if !ok {
		return 0, 0, false
	}
	above := c - rest
	up := how == api.Up && rest > 0
	nearer := how == api.Near && (rest > above || rest == above && n%2 != 0)
	if up || nearer {
		n, rest = n+1, -above
	}
	return n, rest, areNumbers(n)
}
