package record_test

import (
	"bytes"
	"math"
	"slices"
	"testing"

	"boule/api"
	"boule/record"
)

// P6.3, example 2; and bit by bit.
func TestCheck(t *testing.T) {
	for _, c := range []struct {
		b    []byte
		want int
	}{{nil, 65535}, {[]byte{0}, 64770}, {[]byte{1}, 32007}, {[]byte{1, 0}, 1550}} {
		if n := record.Check(c.b); n != c.want {
			t.Error(c.b, n)
		}
	}
	for a := range 256 {
		for b := range 256 {
			l := []byte{byte(a), byte(b)}
			if n := record.Check(l); n != plainCheck(l) {
				t.Error(l, n)
			}
		}
	}
	r := dice()
	for range 300 {
		b := anyBytes(r, r.Intn(500))
		if n := record.Check(b); n != plainCheck(b) {
			t.Error(b, n)
		}
	}
}

// P6.3, example 3: Put and its errors, and which one comes first.
func TestPut(t *testing.T) {
	if b := put(t, 1); !bytes.Equal(b, []byte{1, 0, 6, 14}) {
		t.Error(b)
	}
	if b := put(t, 250, 7, 8); !bytes.Equal(b[:4], []byte{250, 2, 7, 8}) || len(b) != 6 {
		t.Error(b)
	}
	r := dice()
	for range 1000 {
		f := anyFrame(r)
		if b := put(t, f.Kind, f.Payload...); !bytes.Equal(b, plainPut(f)) {
			t.Error(f, b)
		}
	}
	for _, n := range []int{0, 127, 128, 9999, 10000} {
		f := api.Frame{Kind: 3, Payload: anyBytes(r, n)}
		if b := put(t, 3, f.Payload...); !bytes.Equal(b, plainPut(f)) {
			t.Error(n, len(b))
		}
	}
	for _, c := range []struct {
		kind, size int
		want       api.Errno
	}{
		{0, 0, api.ErrRange}, {-1, 0, api.ErrRange}, {251, 0, api.ErrRange}, {256, 0, api.ErrRange}, {257, 5, api.ErrRange}, {math.MinInt, 5, api.ErrRange}, {math.MaxInt, 5, api.ErrRange},
		{1, 10001, api.ErrLong}, {250, 30000, api.ErrLong}, {0, 10001, api.ErrRange}, {251, 10001, api.ErrRange},
	} {
		if b, e := record.Put(api.Frame{Kind: c.kind, Payload: make([]byte, c.size)}); len(b) != 0 || e != c.want {
			t.Error(c, len(b), e)
		}
	}
}

// wantGet checks Get at a place that is in the bytes.
func wantGet(t *testing.T, b []byte, at int) {
	t.Helper()
	f, next, e := record.Get(b, at)
	if w, to, want := plainFrame(b, at); !sameFrame(f, w) || next != to || e != want {
		t.Errorf("Get of %v at %d: got %v, %d, error %d; want %v, %d, error %d", b, at, f, next, e, w, to, want)
	}
}

// P6.4: one error before the other.
func TestGet(t *testing.T) {
	for _, c := range []struct {
		b    []byte
		want api.Errno
	}{
		{nil, api.ErrCut}, {[]byte{0}, api.ErrForm}, {[]byte{0, 0, 1, 2}, api.ErrForm}, {[]byte{251}, api.ErrForm}, {[]byte{255, 128}, api.ErrForm}, {[]byte{251, 0, 6, 14}, api.ErrForm},
		{[]byte{1}, api.ErrCut}, {[]byte{1, 129}, api.ErrCut}, {[]byte{1, 128}, api.ErrShape}, {[]byte{1, 128, 0, 0, 0}, api.ErrShape},
		{join([]byte{1}, bytes.Repeat([]byte{255}, 8)), api.ErrCut}, {join([]byte{1}, bytes.Repeat([]byte{255}, 9)), api.ErrRange},
		{join([]byte{1}, plainNumber(api.MaxNumber+1)), api.ErrRange}, {join([]byte{1}, plainNumber(api.MaxNumber)), api.ErrLong},
		{join([]byte{1}, plainNumber(10001)), api.ErrLong}, {join([]byte{1}, plainNumber(10000)), api.ErrCut},
		{[]byte{1, 0}, api.ErrCut}, {[]byte{1, 0, 6}, api.ErrCut}, {[]byte{1, 0, 6, 14}, api.OK}, {[]byte{1, 0, 6, 15}, api.ErrCheck}, {[]byte{1, 0, 7, 14}, api.ErrCheck},
		{[]byte{1, 2, 0, 0, 0}, api.ErrCut}, {[]byte{1, 1, 0, 0, 0}, api.ErrCheck}, {[]byte{2, 0, 6, 14}, api.ErrCheck}, {[]byte{1, 0, 14, 6}, api.ErrCheck},
	} {
		f, next, e := record.Get(c.b, 0)
		if e != c.want || (e != api.OK && (next != 0 || f.Kind != 0 || len(f.Payload) != 0)) {
			t.Error(c.b, f, next, e)
		}
		wantGet(t, c.b, 0)
		wantGet(t, join([]byte{9, 9}, c.b), 2)
	}
	r := dice()
	for range 30000 {
		f := anyFrame(r)
		if f.Payload = f.Payload[:len(f.Payload)%20]; r.Intn(3) == 0 {
			f.Kind = r.Intn(256)
		}
		before := anyBytes(r, r.Intn(3))
		b := join(before, plainPut(f), anyBytes(r, r.Intn(3)))
		if r.Intn(2) == 0 {
			b[r.Intn(len(b))] = byte(r.Intn(256))
		}
		wantGet(t, b[:len(b)-r.Intn(2)], len(before))
	}
}

// P6.4: places, and the limit of bytes.
func TestGetPlaces(t *testing.T) {
	most := make([]byte, 29996, 30001)
	most = append(most, 1, 0, 6, 14)
	for _, c := range []struct {
		b    []byte
		at   int
		want api.Errno
	}{
		{most, 29996, api.OK}, {most, 30000, api.ErrCut}, {most, 30001, api.ErrRange}, {most, -1, api.ErrRange}, {most, 0, api.ErrForm},
		{append(most, 0), 29996, api.ErrLong}, {append(most, 0), -1, api.ErrLong}, {append(most, 0), 0, api.ErrLong},
		{nil, 0, api.ErrCut}, {nil, 1, api.ErrRange}, {[]byte{0}, math.MinInt, api.ErrRange}, {[]byte{0}, math.MaxInt, api.ErrRange}, {[]byte{0}, 1, api.ErrCut},
	} {
		f, next, e := record.Get(c.b, c.at)
		if e != c.want || (e == api.OK) != (next == 30000) || (e == api.OK) != (f.Kind == 1) || len(f.Payload) != 0 {
			t.Error(len(c.b), c.at, f, next, e)
		}
	}
}

// P6.10: frames are read as what they were, whatever comes behind them, and
// their bytes alone are those that are written for them.
func TestFramesThereAndBack(t *testing.T) {
	r := dice()
	for range 2000 {
		f := anyFrame(r)
		b := put(t, f.Kind, f.Payload...)
		before := anyBytes(r, r.Intn(5))
		if g, next, e := record.Get(join(before, b, anyBytes(r, r.Intn(5))), len(before)); !sameFrame(f, g) || next != len(before)+len(b) || e != api.OK {
			t.Error(f, g, next, e)
		}
		for cut := range b {
			if _, _, e := record.Get(b[:cut], 0); e != api.ErrCut {
				t.Error("a beginning", f, cut, e)
			}
		}
	}
	full := api.Frame{Kind: 250, Payload: anyBytes(r, 10000)}
	if g, next, e := record.Get(put(t, 250, full.Payload...), 0); !sameFrame(full, g) || next != 10005 || e != api.OK {
		t.Error("the longest one", next, e)
	}
}

// P6.11: up to 16 neighbouring bits that are changed behind kind and length.
func TestDamage(t *testing.T) {
	r := dice()
	for _, n := range []int{0, 1, 2, 5, 127, 128, 300} {
		b := put(t, 1+r.Intn(250), anyBytes(r, n)...)
		head := 1 + len(plainNumber(n))
		for first := 8 * head; first < 8*len(b); first++ {
			for range 20 {
				bad := slices.Clone(b)
				many := min(1+r.Intn(16), 8*len(b)-first)
				for i := range many {
					if i == 0 || i == many-1 || r.Intn(2) == 0 {
						bad[(first+i)/8] ^= 128 >> ((first + i) % 8)
					}
				}
				if f, next, e := record.Get(bad, 0); e != api.ErrCheck {
					t.Fatal(b, bad, f, next, e)
				}
			}
		}
	}
}
