package units_test

import (
	"math"
	"math/big"
	"slices"
	"testing"

	"boule/api"
	"boule/units"
)

// P1.1, and example 1.
func TestMulDivRounds(t *testing.T) {
	for _, c := range []struct {
		a, b, c int
		how     api.Rounding
		n, rest int
	}{
		{7, 5, 3, api.Down, 11, 2}, {7, 5, 3, api.Up, 12, -1}, {7, 5, 3, api.Near, 12, -1},
		{-7, 5, 3, api.Down, -12, 1}, {-7, 5, 3, api.Up, -11, -2}, {-7, 5, 3, api.Near, -12, 1},
		{7, -5, 3, api.Down, -12, 1}, {-7, -5, 3, api.Down, 11, 2},
		{5, 1, 2, api.Near, 2, 1}, {7, 1, 2, api.Near, 4, -1},
		{-5, 1, 2, api.Near, -2, -1}, {-7, 1, 2, api.Near, -4, 1}, {1, 1, 2, api.Near, 0, 1}, {-1, 1, 2, api.Near, 0, -1},
		{4, 1, 3, api.Near, 1, 1}, {-4, 1, 3, api.Near, -1, -1},
		{6, 1, 3, api.Down, 2, 0}, {6, 1, 3, api.Up, 2, 0}, {6, 1, 3, api.Near, 2, 0}, {-6, 1, 3, api.Up, -2, 0}, {-6, 1, 3, api.Down, -2, 0},
		{0, -5, 2, api.Down, 0, 0}, {0, -5, 2, api.Up, 0, 0}, {0, most, most, api.Near, 0, 0},
	} {
		if n, rest, e := units.MulDiv(c.a, c.b, c.c, c.how); n != c.n || rest != c.rest || e != api.OK {
			t.Error(c, n, rest, e)
		}
	}
}

// P1.1: products of two words, and results that are just a number, or just not.
func TestMulDivLimits(t *testing.T) {
	const third = 666666666666667 // three of them are twice MaxNumber, and 1
	const word = 54210108624      // the upper word of the greatest product
	for _, c := range []struct {
		a, b, c int
		how     api.Rounding
		n, rest int
		e       api.Errno
	}{
		{most, most, most, api.Down, most, 0, api.OK}, {-most, most, most, api.Up, -most, 0, api.OK},
		{most, most, most - 1, api.Down, 0, 0, api.ErrOver}, {-most, most, most - 1, api.Near, 0, 0, api.ErrOver},
		{most, most, 1, api.Down, 0, 0, api.ErrOver}, {most, -most, 1, api.Up, 0, 0, api.ErrOver}, {most, 2, 1, api.Near, 0, 0, api.ErrOver},
		{most, most, word, api.Down, 0, 0, api.ErrOver}, {most, -most, word, api.Near, 0, 0, api.ErrOver}, {most, most, word + 1, api.Up, 0, 0, api.ErrOver}, {most, most, word - 1, api.Up, 0, 0, api.ErrOver},
		{most - 1, most, most, api.Up, most - 1, 0, api.OK}, {most - 1, most - 1, most, api.Down, most - 2, 1, api.OK}, {most - 1, most - 1, most, api.Up, most - 1, 1 - most, api.OK},
		{third, 3, 2, api.Down, most, 1, api.OK}, {third, 3, 2, api.Near, most, 1, api.OK}, {third, 3, 2, api.Up, 0, 0, api.ErrOver},
		{-third, 3, 2, api.Down, 0, 0, api.ErrOver}, {-third, 3, 2, api.Near, -most, -1, api.OK}, {-third, 3, 2, api.Up, -most, -1, api.OK},
		{1, 1, most, api.Up, 1, 1 - most, api.OK}, {-1, 1, most, api.Down, -1, most - 1, api.OK},
		{1 << 40, 1 << 24, 1 << 49, api.Down, 1 << 15, 0, api.OK}, {-1 << 40, 1 << 24, 1 << 49, api.Down, -1 << 15, 0, api.OK},
	} {
		if n, rest, e := units.MulDiv(c.a, c.b, c.c, c.how); n != c.n || rest != c.rest || e != c.e {
			t.Error(c, n, rest, e)
		}
	}
}

// P1.1: the errors, and which one comes first.
func TestMulDivErrors(t *testing.T) {
	for _, c := range []struct {
		a, b, c int
		how     api.Rounding
		e       api.Errno
	}{
		{1, 1, 1, 0, api.ErrArg}, {1, 1, 1, 4, api.ErrArg}, {1, 1, 1, 255, api.ErrArg}, {most + 1, 1, 0, 4, api.ErrArg},
		{1, 1, 0, api.Down, api.ErrRange}, {1, 1, -1, api.Down, api.ErrRange}, {1, 1, most + 1, api.Up, api.ErrRange}, {1, 1, math.MinInt, api.Near, api.ErrRange},
		{most + 1, 1, 1, api.Down, api.ErrRange}, {-most - 1, 1, 1, api.Down, api.ErrRange}, {1, most + 1, 1, api.Near, api.ErrRange}, {1, -most - 1, 1, api.Up, api.ErrRange},
		{math.MinInt, math.MinInt, 1, api.Down, api.ErrRange}, {most + 1, most, 1, api.Down, api.ErrRange},
		{most, most, 1, api.Down, api.ErrOver},
	} {
		if n, rest, e := units.MulDiv(c.a, c.b, c.c, c.how); n != 0 || rest != 0 || e != c.e {
			t.Error(c, n, rest, e)
		}
	}
}

// P1.12: whatever the size, the quotient and the rest give the product back.
func TestMulDivIsExact(t *testing.T) {
	r := dice()
	for range 20000 {
		a, b, c := anyNumber(r), anyNumber(r), anyDivisor(r)
		product := new(big.Int).Mul(big.NewInt(int64(a)), big.NewInt(int64(b)))
		for _, how := range []api.Rounding{api.Down, api.Up, api.Near} {
			n, rest, e := units.MulDiv(a, b, c, how)
			want := roundedOf(ratio(a, b, c), how)
			if want.CmpAbs(big.NewInt(most)) > 0 {
				if n != 0 || rest != 0 || e != api.ErrOver {
					t.Fatal(a, b, c, how, n, rest, e)
				}
				continue
			}
			back := new(big.Int).Mul(big.NewInt(int64(n)), big.NewInt(int64(c)))
			back.Add(back, big.NewInt(int64(rest)))
			if e != api.OK || big.NewInt(int64(n)).Cmp(want) != 0 || back.Cmp(product) != 0 {
				t.Fatal(a, b, c, how, n, rest, e, want)
			}
			if how == api.Down && (rest < 0 || rest >= c) || how == api.Up && (rest > 0 || rest <= -c) || how == api.Near && 2*max(rest, -rest) > c {
				t.Fatal("rest", a, b, c, how, n, rest)
			}
		}
		down, left, e := units.MulDiv(a, b, c, api.Down)
		up, right, f := units.MulDiv(-a, b, c, api.Up)
		if down != -up || left != -right || e != f {
			t.Fatal("opposite", a, b, c, down, left, e, up, right, f)
		}
	}
}

func roundedOf(x *big.Rat, how api.Rounding) *big.Int {
	down, up := downOf(x), upOf(x)
	if how == api.Down || down.Cmp(up) == 0 {
		return down
	}
	if how == api.Up {
		return up
	}
	below := new(big.Rat).Sub(x, new(big.Rat).SetInt(down))
	switch half := below.Cmp(big.NewRat(1, 2)); {
	case half < 0 || half == 0 && down.Bit(0) == 0:
		return down
	}
	return up
}

// P1.2.
func TestCompare(t *testing.T) {
	for _, c := range []struct {
		a, b api.Frac
		want int
		e    api.Errno
	}{
		{frac(1, 3), frac(2, 6), 0, api.OK}, {frac(0, 5), frac(0, 7), 0, api.OK}, {frac(-2, 4), frac(-3, 6), 0, api.OK},
		{frac(1, 2), frac(1, 3), 1, api.OK}, {frac(1, 3), frac(1, 2), -1, api.OK}, {frac(-1, 3), frac(-1, 4), -1, api.OK}, {frac(-1, 4), frac(-1, 3), 1, api.OK},
		{frac(1, most), frac(-1, most), 1, api.OK}, {frac(-1, most), frac(0, 1), -1, api.OK}, {frac(0, 1), frac(-most, 1), 1, api.OK},
		{frac(most, most-1), frac(most-1, most-2), -1, api.OK}, {frac(most-1, most), frac(most-2, most-1), 1, api.OK}, {frac(-most, most-1), frac(1-most, most-2), 1, api.OK},
		{frac(most, 1), frac(-most, 1), 1, api.OK}, {frac(most, most), frac(1, 1), 0, api.OK},
		{frac(1, 0), frac(1, 1), 0, api.ErrArg}, {frac(1, 1), frac(1, 0), 0, api.ErrArg}, {frac(1, -1), frac(1, 1), 0, api.ErrArg}, {frac(1, most+1), frac(1, 1), 0, api.ErrArg},
		{frac(most+1, 1), frac(1, 1), 0, api.ErrArg}, {frac(1, 1), frac(-most-1, 1), 0, api.ErrArg},
	} {
		if n, e := units.Compare(c.a, c.b); n != c.want || e != c.e {
			t.Error(c, n, e)
		}
	}
}

// P1.2, with products of two words.
func TestCompareIsExact(t *testing.T) {
	r := dice()
	for range 20000 {
		a, b := frac(anyNumber(r), anyDivisor(r)), frac(anyNumber(r), anyDivisor(r))
		want := ratio(a.Num, 1, a.Den).Cmp(ratio(b.Num, 1, b.Den))
		if n, e := units.Compare(a, b); n != want || e != api.OK {
			t.Fatal(a, b, n, e, want)
		}
	}
}

// P1.3, and example 2.
func TestSimplest(t *testing.T) {
	for _, c := range []struct {
		a, b, want api.Frac
		e          api.Errno
	}{
		{frac(31, 100), frac(34, 100), frac(1, 3), api.OK}, {frac(314, 100), frac(315, 100), frac(22, 7), api.OK}, {frac(5, 2), frac(9, 2), frac(3, 1), api.OK},
		{frac(-34, 100), frac(-31, 100), frac(-1, 3), api.OK}, {frac(-315, 100), frac(-314, 100), frac(-22, 7), api.OK}, {frac(-9, 2), frac(-5, 2), frac(-4, 1), api.OK},
		{frac(-5, 2), frac(1, 2), frac(-2, 1), api.OK}, {frac(-1, 2), frac(1, 3), frac(0, 1), api.OK}, {frac(0, 9), frac(0, 7), frac(0, 1), api.OK},
		{frac(4, 6), frac(2, 3), frac(2, 3), api.OK}, {frac(-6, 4), frac(-3, 2), frac(-3, 2), api.OK}, {frac(2, 5), frac(1, 2), frac(1, 2), api.OK}, {frac(1, 2), frac(3, 5), frac(1, 2), api.OK},
		{frac(most-1, most), frac(most-1, most), frac(most-1, most), api.OK}, {frac(-most, 1), frac(most, 1), frac(-most, 1), api.OK}, {frac(1, most), frac(1, most-1), frac(1, most-1), api.OK},
		{frac(2, 3), frac(1, 3), frac(0, 0), api.ErrArg}, {frac(1, most-1), frac(1, most), frac(0, 0), api.ErrArg},
		{frac(1, 0), frac(1, 3), frac(0, 0), api.ErrArg}, {frac(1, 3), frac(1, -1), frac(0, 0), api.ErrArg}, {frac(-most-1, 1), frac(1, 3), frac(0, 0), api.ErrArg},
	} {
		if f, e := units.Simplest(c.a, c.b); f != c.want || e != c.e {
			t.Error(c, f, e)
		}
	}
}

// plainSimplest tries one Den after another.
func plainSimplest(a, b api.Frac) api.Frac {
	for den := 1; ; den++ {
		num := int(upOf(ratio(a.Num, den, a.Den)).Int64())
		if ratio(num, 1, den).Cmp(ratio(b.Num, 1, b.Den)) <= 0 {
			return frac(num, den)
		}
	}
}

// P1.3, P1.15: no fraction with a lesser Den is between small ends.
func TestSimplestIsLeast(t *testing.T) {
	for da := 1; da <= 8; da++ {
		for db := 1; db <= 8; db++ {
			for na := -12; na <= 12; na++ {
				for nb := -12; nb <= 12; nb++ {
					if na*db > nb*da {
						continue
					}
					a, b := frac(na, da), frac(nb, db)
					if f, e := units.Simplest(a, b); f != plainSimplest(a, b) || e != api.OK {
						t.Fatal(a, b, f, e)
					}
				}
			}
		}
	}
}

// P1.15: lowest terms, a if a is b, and closer fractions, at any size.
func TestSimplestOfAnySize(t *testing.T) {
	r := dice()
	for range 5000 {
		l := []api.Frac{frac(anyNumber(r), anyDivisor(r)), frac(anyNumber(r), anyDivisor(r)), frac(anyNumber(r), anyDivisor(r)), frac(anyNumber(r), anyDivisor(r))}
		slices.SortFunc(l, func(a, b api.Frac) int { return ratio(a.Num, 1, a.Den).Cmp(ratio(b.Num, 1, b.Den)) })
		far, e := units.Simplest(l[0], l[3])
		near, f := units.Simplest(l[1], l[2])
		if e != api.OK || f != api.OK || far.Den > near.Den {
			t.Fatal(l, far, e, near, f)
		}
		x := ratio(near.Num, 1, near.Den)
		if x.Num().Int64() != int64(near.Num) || x.Denom().Int64() != int64(near.Den) || x.Cmp(ratio(l[1].Num, 1, l[1].Den)) < 0 || x.Cmp(ratio(l[2].Num, 1, l[2].Den)) > 0 {
			t.Fatal(l, near)
		}
		same, e := units.Simplest(l[0], l[0])
		if n, f := units.Compare(same, l[0]); e != api.OK || f != api.OK || n != 0 {
			t.Fatal(l[0], same, e)
		}
	}
}

// P1.4, and example 3.
func TestPortions(t *testing.T) {
	ones := repeat(1, api.MaxPortions)
	for _, c := range []struct {
		n       int
		weights []int
		want    []int
		e       api.Errno
	}{
		{10, []int{1, 1, 1}, []int{3, 3, 4}, api.OK}, {10, []int{2, 0, 1}, []int{6, 0, 4}, api.OK}, {2, []int{1, 1, 1}, []int{0, 1, 1}, api.OK},
		{0, []int{5}, []int{0}, api.OK}, {7, []int{3}, []int{7}, api.OK}, {7, []int{0, 0, 4}, []int{0, 0, 7}, api.OK}, {7, []int{4, 0, 0}, []int{7, 0, 0}, api.OK},
		{most, []int{most - 1, 1}, []int{most - 1, 1}, api.OK}, {most, []int{0, most}, []int{0, most}, api.OK}, {most - 1, []int{1, most - 1}, []int{0, most - 1}, api.OK},
		{100, ones, ones, api.OK},
		{100, repeat(1, api.MaxPortions+1), nil, api.ErrLong}, {-1, repeat(-1, api.MaxPortions+1), nil, api.ErrLong},
		{-1, []int{1}, nil, api.ErrRange}, {most + 1, []int{1}, nil, api.ErrRange}, {1, []int{1, -1}, nil, api.ErrRange}, {1, []int{most + 1}, nil, api.ErrRange},
		{1, []int{math.MaxInt, math.MaxInt, 2}, nil, api.ErrRange}, {-1, []int{most, 1}, nil, api.ErrRange}, {-1, nil, nil, api.ErrRange},
		{1, []int{most, 1}, nil, api.ErrOver}, {1, repeat(most, api.MaxPortions), nil, api.ErrOver},
		{10, []int{0, 0}, nil, api.ErrArg}, {10, nil, nil, api.ErrArg}, {10, []int{}, nil, api.ErrArg}, {0, []int{0}, nil, api.ErrArg},
	} {
		if l, e := units.Portions(c.n, c.weights); !slices.Equal(l, c.want) || e != c.e {
			t.Error(c, l, e)
		}
	}
}

// P1.4, P1.16: the first parts together, the sum, and weights put together.
func TestPortionsAddUp(t *testing.T) {
	r := dice()
	for range 3000 {
		n := max(0, anyNumber(r))
		weights := make([]int, 1+r.Intn(6))
		for i := range weights {
			weights[i] = r.Intn(3) * r.Intn(most/12)
		}
		weights[r.Intn(len(weights))]++
		sum := 0
		for _, w := range weights {
			sum += w
		}
		l, e := units.Portions(n, weights)
		if e != api.OK || len(l) != len(weights) {
			t.Fatal(n, weights, l, e)
		}
		parts, before := 0, 0
		for i, x := range l {
			parts, before = parts+x, before+weights[i]
			if x < 0 || weights[i] == 0 && x != 0 || int64(parts) != downOf(ratio(n, before, sum)).Int64() {
				t.Fatal(n, weights, l, i)
			}
		}
		if parts != n {
			t.Fatal(n, weights, l)
		}
		if len(l) > 1 {
			wantTogether(t, n, weights, l, r.Intn(len(l)-1))
		}
	}
}

// wantTogether puts the weights i and i + 1 together.
func wantTogether(t *testing.T, n int, weights, parts []int, i int) {
	t.Helper()
	join := func(l []int) []int { return slices.Concat(l[:i], []int{l[i] + l[i+1]}, l[i+2:]) }
	if l, e := units.Portions(n, join(weights)); e != api.OK || !slices.Equal(l, join(parts)) {
		t.Fatal("together", n, weights, parts, i, l, e)
	}
}
