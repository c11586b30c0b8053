package slice_test

import (
	"math"
	"math/big"
	"math/rand"
	"slices"
	"testing"

	"boule/api"
	"boule/slice"
)

// divided is what Divide returns, as parts.
func divided(n int, p api.Parts) (api.Parts, api.Errno) {
	top, kerfs, parts, bottom, e := slice.Divide(n, p)
	return api.Parts{Slices: parts, Kerfs: kerfs, Top: top, Bottom: bottom}, e
}

// wantDivide checks the results of Divide.
func wantDivide(t *testing.T, n int, p, parts api.Parts, want api.Errno) {
	t.Helper()
	if x, e := divided(n, p); !sameParts(x, parts) || e != want {
		t.Error("Divide", n, p, x, e, "want", parts, want)
	}
}

// P8.8, and example 5.
func TestDivide(t *testing.T) {
	five := api.Parts{Top: 1, Kerfs: []int{1, 1}, Slices: []int{6}, Bottom: 1}
	wantDivide(t, 100, five, api.Parts{Top: 10, Kerfs: []int{10, 10}, Slices: []int{60}, Bottom: 10}, api.OK)
	wantDivide(t, 9, five, api.Parts{Top: 0, Kerfs: []int{1, 1}, Slices: []int{6}, Bottom: 1}, api.OK)
	wantDivide(t, 1, five, api.Parts{Kerfs: []int{0, 0}, Slices: []int{0}, Bottom: 1}, api.OK)
	wantDivide(t, 0, five, api.Parts{Kerfs: []int{0, 0}, Slices: []int{0}}, api.OK)
	wantDivide(t, 10, api.Parts{Top: 1, Kerfs: []int{1}, Bottom: 1}, api.Parts{Top: 3, Kerfs: []int{3}, Bottom: 4}, api.OK)
	wantDivide(t, 7, api.Parts{Top: 3}, api.Parts{Top: 7}, api.OK)
	wantDivide(t, 7, api.Parts{Kerfs: []int{2}}, api.Parts{Kerfs: []int{7}}, api.OK)
	wantDivide(t, 7, api.Parts{Kerfs: []int{0}, Bottom: 1}, api.Parts{Kerfs: []int{0}, Bottom: 7}, api.OK)
	wantDivide(t, 10, api.Parts{Kerfs: []int{0, 1, 0}, Slices: []int{2, 0}}, api.Parts{Kerfs: []int{0, 4, 0}, Slices: []int{6, 0}}, api.OK)
	wantDivide(t, 11, api.Parts{Top: 1, Kerfs: []int{2, 3, 4}, Slices: []int{5, 6}, Bottom: 7}, api.Parts{Top: 0, Kerfs: []int{1, 1, 2}, Slices: []int{2, 2}, Bottom: 3}, api.OK)
	wantDivide(t, api.MaxNumber, api.Parts{Top: api.MaxAlong}, api.Parts{Top: api.MaxNumber}, api.OK)
	wantDivide(t, api.MaxNumber, api.Parts{Top: api.MaxAlong - 1, Kerfs: []int{1}}, api.Parts{Top: api.MaxNumber - 1666667, Kerfs: []int{1666667}}, api.OK)
	wantDivide(t, 5, api.Parts{Top: 300000000, Kerfs: []int{100000000, 1}, Slices: []int{199999998}, Bottom: 1}, api.Parts{Top: 2, Kerfs: []int{1, 0}, Slices: []int{1}, Bottom: 1}, api.OK)
}

// P8.8: as many parts as there can be.
func TestDivideAmongMany(t *testing.T) {
	p := api.Parts{Kerfs: slices.Repeat([]int{1}, api.MaxWires), Slices: slices.Repeat([]int{2}, api.MaxWires-1), Top: 1, Bottom: 1}
	wantDivide(t, 12000, p, api.Parts{Kerfs: slices.Repeat([]int{2}, api.MaxWires), Slices: slices.Repeat([]int{4}, api.MaxWires-1), Top: 2, Bottom: 2}, api.OK)
	p.Kerfs, p.Slices = append(p.Kerfs, 1), append(p.Slices, 2)
	wantDivide(t, 12000, p, api.Parts{}, api.ErrArg)
}

// badParts are not those of a block.
func badParts() []api.Parts {
	l := []api.Parts{
		{}, {Kerfs: []int{0}}, {Kerfs: []int{0, 0}, Slices: []int{0}},
		{Top: 1, Bottom: 1}, {Bottom: 1},
		{Top: 1, Slices: []int{1}}, {Top: 1, Slices: []int{0}}, {Top: 1, Slices: []int{0}, Bottom: 1},
		{Top: 1, Kerfs: []int{1}, Slices: []int{1}}, {Top: 1, Kerfs: []int{1, 1}},
		{Top: 1, Kerfs: []int{1, 1}, Slices: []int{1, 1}}, {Top: 1, Kerfs: []int{1, 1, 1}, Slices: []int{1}},
		{Top: api.MaxAlong, Kerfs: []int{1}}, {Top: api.MaxAlong, Kerfs: []int{0}, Bottom: 1},
		{Top: api.MaxAlong - 1, Kerfs: []int{0, 1}, Slices: []int{1}},
		{Kerfs: []int{api.MaxAlong, api.MaxAlong}, Slices: []int{api.MaxAlong}},
		{Kerfs: slices.Repeat([]int{1}, api.MaxWires+1), Slices: slices.Repeat([]int{1}, api.MaxWires)},
	}
	for _, n := range []int{-1, math.MinInt, api.MaxAlong + 1, math.MaxInt} {
		l = append(l, api.Parts{Top: n}, api.Parts{Top: n, Kerfs: []int{3}, Bottom: 3}, api.Parts{Top: 3, Kerfs: []int{3}, Bottom: n},
			api.Parts{Top: 3, Kerfs: []int{n}}, api.Parts{Kerfs: []int{3, n}, Slices: []int{3}}, api.Parts{Kerfs: []int{3, 3}, Slices: []int{n}},
			api.Parts{Kerfs: []int{3, 3, 3}, Slices: []int{3, n}}, api.Parts{Top: n, Kerfs: []int{n}, Bottom: n})
	}
	return l
}

// P8.8: errors, and their order.
func TestDivideErrors(t *testing.T) {
	for _, p := range badParts() {
		for _, n := range []int{0, 1, api.MaxNumber} {
			wantDivide(t, n, p, api.Parts{}, api.ErrArg)
		}
		wantDivide(t, -1, p, api.Parts{}, api.ErrRange)
	}
	for _, n := range []int{-1, api.MaxNumber + 1, math.MinInt, math.MaxInt} {
		wantDivide(t, n, api.Parts{Top: 1}, api.Parts{}, api.ErrRange)
	}
}

// anyParts returns the parts of a block: some of a saw, some of any length.
func anyParts(r *rand.Rand) api.Parts {
	if r.Intn(2) == 0 {
		w, b, length := anySaw(r)
		p, _, _ := slice.Follow(w, b, length, anyCourse(r, w, b, length))
		return p
	}
	length := func() int { return r.Intn(2) * r.Intn([]int{4, api.MaxAlong / 10}[r.Intn(2)]) }
	p := api.Parts{Top: 1 + length()}
	for i := range r.Intn(4) {
		if i > 0 {
			p.Slices = append(p.Slices, length())
		}
		p.Kerfs, p.Bottom = append(p.Kerfs, length()), length()
	}
	return p
}

// inOrder returns all parts, from the top on.
func inOrder(p api.Parts) []int {
	l := []int{p.Top}
	for i, n := range p.Kerfs {
		l = append(l, n)
		if i < len(p.Slices) {
			l = append(l, p.Slices[i])
		}
	}
	return append(l, p.Bottom)
}

// P8.8, P8.10, T1: the first parts together have what their lengths say, and all
// of them have all.
func TestDivideIsExact(t *testing.T) {
	r := dice()
	for range 2000 {
		p := anyParts(r)
		n := r.Intn([]int{10, 1000000, api.MaxNumber + 1}[r.Intn(3)])
		x, e := divided(n, p)
		if e != api.OK || len(x.Kerfs) != len(p.Kerfs) || len(x.Slices) != len(p.Slices) {
			t.Fatal(n, p, x, e)
		}
		lengths, shares := inOrder(p), inOrder(x)
		whole := big.NewInt(int64(sum(lengths)))
		for i := range lengths {
			want := new(big.Int).Mul(big.NewInt(int64(n)), big.NewInt(int64(sum(lengths[:i+1]))))
			if want.Div(want, whole).Cmp(big.NewInt(int64(sum(shares[:i+1])))) != 0 {
				t.Fatal("part", i, n, p, x)
			}
		}
		if sum(shares) != n || slices.Min(shares) < 0 {
			t.Fatal("all", n, p, x)
		}
	}
}
