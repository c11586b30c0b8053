package record_test

import (
	"bytes"
	"math"
	"slices"
	"testing"

	"boule/api"
	"boule/record"
)

// P6.1, example 1.
func TestExampleNumbers(t *testing.T) {
	for n, want := range map[int][]byte{0: {0}, 127: {127}, 128: {129, 0}, 300: {130, 44}, 1: {1}} {
		if b, e := record.PutNumber(n); !bytes.Equal(b, want) || e != api.OK {
			t.Error("PutNumber", n, b, e)
		}
	}
	for n, want := range map[int][]byte{0: {0}, -1: {1}, 1: {2}, -64: {127}, 64: {129, 0}} {
		if b, e := record.PutSigned(n); !bytes.Equal(b, want) || e != api.OK {
			t.Error("PutSigned", n, b, e)
		}
	}
}

// P6.1: all lengths, and the numbers that can not be written.
func TestPutNumber(t *testing.T) {
	r := dice()
	l := []int{0, 1, api.MaxNumber - 1, api.MaxNumber}
	for bits := range 49 {
		l = append(l, 1<<bits-1, 1<<bits, 1<<bits+1)
	}
	for range 5000 {
		l = append(l, anyNumber(r))
	}
	for _, n := range l {
		if b, e := record.PutNumber(n); !bytes.Equal(b, plainNumber(n)) || e != api.OK {
			t.Error("PutNumber", n, b, e)
		}
		for _, m := range []int{n, -n} {
			if b, e := record.PutSigned(m); !bytes.Equal(b, plainSigned(m)) || e != api.OK {
				t.Error("PutSigned", m, b, e)
			}
		}
	}
	for _, n := range []int{-1, -2, -api.MaxNumber, math.MinInt, api.MaxNumber + 1, math.MaxInt} {
		if b, e := record.PutNumber(n); len(b) != 0 || e != api.ErrRange {
			t.Error("PutNumber", n, b, e)
		}
	}
	for _, n := range []int{-api.MaxNumber - 1, math.MinInt, math.MinInt + 1, api.MaxNumber + 1, math.MaxInt} {
		if b, e := record.PutSigned(n); len(b) != 0 || e != api.ErrRange {
			t.Error("PutSigned", n, b, e)
		}
	}
}

// wantNumbers checks Number and Signed at a place that is in the bytes.
func wantNumbers(t *testing.T, b []byte, at int) {
	t.Helper()
	n, next, e := record.Number(b, at)
	if m, to, f := plainGet(b, at, false); n != m || next != to || e != f {
		t.Errorf("Number of %v at %d: got %d, %d, error %d; want %d, %d, error %d", b, at, n, next, e, m, to, f)
	}
	n, next, e = record.Signed(b, at)
	if m, to, f := plainGet(b, at, true); n != m || next != to || e != f {
		t.Errorf("Signed of %v at %d: got %d, %d, error %d; want %d, %d, error %d", b, at, n, next, e, m, to, f)
	}
}

// P6.2: all short bytes that have a meaning, and many long ones.
func TestNumber(t *testing.T) {
	few := []byte{0, 1, 127, 128, 129, 255}
	l := [][]byte{{}}
	for start := 0; len(l) < 7776; {
		end := len(l)
		for _, b := range l[start:end] {
			for _, x := range few {
				l = append(l, append(slices.Clone(b), x))
			}
		}
		start = end
	}
	for _, b := range l {
		wantNumbers(t, b, 0)
		wantNumbers(t, b, len(b)/2)
		wantNumbers(t, b, len(b))
	}
	r := dice()
	for range 20000 {
		b := anyBytes(r, r.Intn(12))
		wantNumbers(t, b, r.Intn(len(b)+1))
	}
}

// P6.2: eight, nine and ten bytes with the highest bit, and the greatest numbers.
func TestLongNumbers(t *testing.T) {
	for n := range 12 {
		ahead := bytes.Repeat([]byte{255}, n)
		want := api.ErrCut
		if n >= 9 {
			want = api.ErrRange
		}
		for _, read := range []func([]byte, int) (int, int, api.Errno){record.Number, record.Signed} {
			if m, next, e := read(ahead, 0); m != 0 || next != 0 || e != want {
				t.Error(n, m, next, e)
			}
		}
		wantNumbers(t, append(ahead, 0), 0)
		wantNumbers(t, append(ahead, 127), 0)
		wantNumbers(t, join([]byte{129}, bytes.Repeat([]byte{128}, n), []byte{0}), 0)
	}
	for _, n := range []int{api.MaxNumber - 1, api.MaxNumber} {
		if m, next, e := record.Number(plainNumber(n), 0); m != n || next != 8 || e != api.OK {
			t.Error("Number", n, m, next, e)
		}
		for _, n := range []int{n, -n} {
			if m, next, e := record.Signed(plainSigned(n), 0); m != n || next != 8 || e != api.OK {
				t.Error("Signed", n, m, next, e)
			}
		}
	}
	if n, next, e := record.Number(plainNumber(api.MaxNumber+1), 0); n != 0 || next != 0 || e != api.ErrRange {
		t.Error("Number", n, next, e)
	}
	for _, n := range []int{api.MaxNumber + 1, -api.MaxNumber - 1} {
		if n, next, e := record.Signed(plainSigned(n), 0); n != 0 || next != 0 || e != api.ErrRange {
			t.Error("Signed", n, next, e)
		}
	}
}

// P6.2: places, the limit of bytes, and which error comes first.
func TestNumberPlaces(t *testing.T) {
	most := make([]byte, api.MaxStream)
	for _, read := range []func([]byte, int) (int, int, api.Errno){record.Number, record.Signed} {
		for _, c := range []struct {
			b    []byte
			at   int
			next int
			want api.Errno
		}{
			{most, 0, 1, api.OK}, {most, 29999, 30000, api.OK}, {most, 30000, 0, api.ErrCut}, {most, 30001, 0, api.ErrRange}, {most, -1, 0, api.ErrRange},
			{append(most, 0), 0, 0, api.ErrLong}, {append(most, 0), -1, 0, api.ErrLong}, {append(most, 128), 30000, 0, api.ErrLong},
			{nil, 0, 0, api.ErrCut}, {[]byte{}, 0, 0, api.ErrCut}, {nil, 1, 0, api.ErrRange}, {nil, -1, 0, api.ErrRange},
			{[]byte{128}, 2, 0, api.ErrRange}, {[]byte{128}, 1, 0, api.ErrCut}, {[]byte{128}, 0, 0, api.ErrShape},
			{[]byte{0}, math.MinInt, 0, api.ErrRange}, {[]byte{0}, math.MaxInt, 0, api.ErrRange},
		} {
			if n, next, e := read(c.b, c.at); n != 0 || next != c.next || e != c.want {
				t.Error(len(c.b), c.at, n, next, e)
			}
		}
	}
}

// P6.10: numbers are read as what they were, whatever comes behind them, and
// their bytes alone are those that are written for them.
func TestNumbersThereAndBack(t *testing.T) {
	r := dice()
	for range 20000 {
		n := anyNumber(r)
		if r.Intn(2) == 0 {
			n = -n
		}
		b, e := record.PutSigned(n)
		if m, next, f := record.Signed(join(b, anyBytes(r, r.Intn(3))), 0); m != n || next != len(b) || e != api.OK || f != api.OK {
			t.Error("Signed", n, m, next, e, f)
		}
		b = anyBytes(r, 1+r.Intn(9))
		if n, next, e := record.Number(b, 0); e == api.OK {
			if w, e := record.PutNumber(n); !bytes.Equal(w, b[:next]) || e != api.OK {
				t.Error("PutNumber", b, n, w, e)
			}
		}
		if n, next, e := record.Signed(b, 0); e == api.OK {
			if w, e := record.PutSigned(n); !bytes.Equal(w, b[:next]) || e != api.OK {
				t.Error("PutSigned", b, n, w, e)
			}
		}
	}
}

// P6.10: no two numbers have the same bytes, nor has one the beginning of another one.
func TestNoNumberBeginsAnother(t *testing.T) {
	var l [][]byte
	for n := range 40000 {
		b, _ := record.PutNumber(n)
		l = append(l, b)
	}
	slices.SortFunc(l, bytes.Compare)
	for i := 1; i < len(l); i++ {
		if bytes.HasPrefix(l[i], l[i-1]) {
			t.Error(l[i-1], l[i])
		}
	}
}
