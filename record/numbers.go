package record

import (
	"math/bits"

	"boule/api"
	"boule/check"
)

const (
	groupBits = 7
	ahead     = 1 << groupBits // the bit of a byte behind which comes another group
	maxGroups = 9              // with more of them a number would not fit an int
)

// number writes a number that is not below 0.
func (w *writer) number(n int) {
	last := max(0, bits.Len(uint(n))-1) / groupBits
	for i := range last {
		w.WriteByte(ahead | byte(n>>(groupBits*(last-i))))
	}
	w.WriteByte(byte(n % ahead))
}

// signed writes a number that may be below 0.
func (w *writer) signed(n int) {
	if n < 0 {
		w.number(-2*n - 1)
		return
	}
	w.number(2 * n)
}

// groups reads a number that is not below 0, but can be too great.
func (r *reader) groups() int {
	n := 0
	for i := range maxGroups {
		b := r.next()
		demand(api.ErrShape, i > 0 || b != ahead)
		n = n<<groupBits | b%ahead
		if b < ahead {
			return n
		}
	}
	panic(flaw(api.ErrRange))
}

// number reads a number that is not below 0.
func (r *reader) number() int {
	n := r.groups()
	demand(api.ErrRange, n <= api.MaxNumber)
	return n
}

// signed reads a number that may be below 0.
func (r *reader) signed() int {
	n := r.groups()
	if n%2 == 0 {
		n /= 2
	} else {
		n = -(n / 2) - 1
	}
	demand(api.ErrRange, -api.MaxNumber <= n && n <= api.MaxNumber)
	return n
}

// written returns the bytes of a number that must be at least so great.
func written(n, least int, write func(*writer, int)) ([]byte, api.Errno) {
	e := check.First(check.Unless(api.ErrRange, func() bool { return least <= n && n <= api.MaxNumber }))
	if e != api.OK {
		return nil, e
	}
	var w writer
	write(&w, n)
	return w.Bytes(), api.OK
}

// PutNumber writes a number that is not below 0.
func PutNumber(n int) ([]byte, api.Errno) { return written(n, 0, (*writer).number) }

// Number reads a number, and tells where what comes next begins.
func Number(b []byte, at int) (n, next int, e api.Errno) {
	return readAt(b, at, (*reader).number)
}

// PutSigned writes a number.
func PutSigned(n int) ([]byte, api.Errno) { return written(n, -api.MaxNumber, (*writer).signed) }

// Signed reads a number that PutSigned wrote.
func Signed(b []byte, at int) (n, next int, e api.Errno) {
	return readAt(b, at, (*reader).signed)
}
