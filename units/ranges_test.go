package units_test

import (
	"math/big"
	"slices"
	"testing"

	"boule/api"
	"boule/units"
)

// listCase is a call with a list of ranges.
type listCase struct {
	name string
	l    []api.Range
	want api.Range
	e    api.Errno
}

func checkList(t *testing.T, f func([]api.Range) (api.Range, api.Errno), cases []listCase) {
	t.Helper()
	for _, c := range cases {
		x, e := f(c.l)
		wantRange(t, c.name, x, e, c.want, c.e)
	}
}

// badLists are the lists that no call takes.
func badLists() []listCase {
	tooMany := repeat(span(0, 0), api.MaxRanges+1)
	return []listCase{
		{"too many", tooMany, span(0, 0), api.ErrLong},
		{"too many, and not valid", repeat(span(1, 0), api.MaxRanges+1), span(0, 0), api.ErrLong},
		{"turned", []api.Range{span(0, 9), span(5, 4)}, span(0, 0), api.ErrArg},
		{"low", []api.Range{span(-most-1, 0)}, span(0, 0), api.ErrArg},
		{"high", []api.Range{span(0, most+1)}, span(0, 0), api.ErrArg},
		{"not valid, and over or apart", []api.Range{span(0, most), span(most, most), span(0, 0), span(1, 0)}, span(0, 0), api.ErrArg},
	}
}

// P1.5 (Sum).
func TestSum(t *testing.T) {
	checkList(t, units.Sum, badLists())
	checkList(t, units.Sum, []listCase{
		{"three", []api.Range{span(1, 5), span(-3, 2), span(2, 9)}, span(0, 16), api.OK},
		{"one", []api.Range{span(-7, -4)}, span(-7, -4), api.OK},
		{"nil", nil, span(0, 0), api.OK},
		{"none", []api.Range{}, span(0, 0), api.OK},
		{"many", repeat(span(-1, 2), api.MaxRanges), span(-100, 200), api.OK},
		{"just met", []api.Range{span(-most, most-1), span(0, 1)}, span(-most, most), api.OK},
		{"met in the end", []api.Range{span(most, most), span(1, 1), span(-1, -1)}, span(most, most), api.OK},
		{"just passed above", []api.Range{span(0, most), span(0, 1)}, span(0, 0), api.ErrOver},
		{"just passed below", []api.Range{span(-most, 0), span(-1, 0)}, span(0, 0), api.ErrOver},
		{"passed by much", repeat(span(-most, most), api.MaxRanges), span(0, 0), api.ErrOver},
	})
}

// P1.5 (Less).
func TestLess(t *testing.T) {
	for _, c := range []struct {
		a, b, want api.Range
		e          api.Errno
	}{
		{span(1, 5), span(-3, 2), span(-1, 8), api.OK}, {span(4, 4), span(4, 4), span(0, 0), api.OK}, {span(-5, -1), span(2, 3), span(-8, -3), api.OK},
		{span(0, most), span(0, most), span(-most, most), api.OK},
		{span(0, most), span(-1, 0), span(0, 0), api.ErrOver}, {span(-most, 0), span(0, 1), span(0, 0), api.ErrOver},
		{span(2, 1), span(0, 0), span(0, 0), api.ErrArg}, {span(0, 0), span(2, 1), span(0, 0), api.ErrArg}, {span(0, most+1), span(0, 0), span(0, 0), api.ErrArg}, {span(0, most), span(-most-1, 0), span(0, 0), api.ErrArg},
	} {
		x, e := units.Less(c.a, c.b)
		wantRange(t, "less", x, e, c.want, c.e)
	}
}

// P1.6 (Scale), and example 4.
func TestScale(t *testing.T) {
	for _, c := range []struct {
		r    api.Range
		f    api.Frac
		want api.Range
		e    api.Errno
	}{
		{span(-3, 5), frac(2, 3), span(-2, 4), api.OK}, {span(-3, 5), frac(-2, 3), span(-4, 2), api.OK}, {span(-3, 5), frac(0, 3), span(0, 0), api.OK},
		{span(1, 1), frac(1, 2), span(0, 1), api.OK}, {span(-1, -1), frac(1, 2), span(-1, 0), api.OK}, {span(2, 4), frac(1, 2), span(1, 2), api.OK},
		{span(-most, most), frac(most, most), span(-most, most), api.OK}, {span(-most, most), frac(-most, most), span(-most, most), api.OK}, {span(-most, most), frac(1, most), span(-1, 1), api.OK},
		{span(0, most), frac(most, most-1), span(0, 0), api.ErrOver}, {span(-most, 0), frac(most, most-1), span(0, 0), api.ErrOver}, {span(666666666666667, 666666666666667), frac(3, 2), span(0, 0), api.ErrOver},
		{span(2, 1), frac(1, 1), span(0, 0), api.ErrArg}, {span(0, 1), frac(1, 0), span(0, 0), api.ErrArg}, {span(0, 1), frac(most+1, 1), span(0, 0), api.ErrArg}, {span(0, most+1), frac(2, 1), span(0, 0), api.ErrArg},
	} {
		x, e := units.Scale(c.r, c.f)
		wantRange(t, "scale", x, e, c.want, c.e)
	}
}

// twoCase is a call with two ranges and a unit.
type twoCase struct {
	a, b api.Range
	unit int
	want api.Range
	e    api.Errno
}

func checkTwo(t *testing.T, f func(a, b api.Range, unit int) (api.Range, api.Errno), cases []twoCase) {
	t.Helper()
	for _, c := range cases {
		x, e := f(c.a, c.b, c.unit)
		if x != c.want || e != c.e {
			t.Error(c, x, e)
		}
	}
}

// badTwos are wrong for Times and for Over.
func badTwos() []twoCase {
	return []twoCase{
		{span(2, 1), span(1, 2), 1, span(0, 0), api.ErrArg}, {span(1, 2), span(2, 1), 1, span(0, 0), api.ErrArg}, {span(1, most+1), span(1, 2), 1, span(0, 0), api.ErrArg},
		{span(1, 2), span(-most-1, 2), 1, span(0, 0), api.ErrArg}, {span(1, 2), span(2, 1), 0, span(0, 0), api.ErrArg},
		{span(1, 2), span(1, 2), 0, span(0, 0), api.ErrRange}, {span(1, 2), span(1, 2), -1, span(0, 0), api.ErrRange}, {span(1, 2), span(1, 2), most + 1, span(0, 0), api.ErrRange},
	}
}

// P1.6 (Times), and example 4.
func TestTimes(t *testing.T) {
	checkTwo(t, units.Times, badTwos())
	checkTwo(t, units.Times, []twoCase{
		{span(2, 3), span(-4, 5), 2, span(-6, 8), api.OK}, {span(-4, 5), span(2, 3), 2, span(-6, 8), api.OK}, {span(-3, -2), span(-5, -4), 1, span(8, 15), api.OK},
		{span(-3, 2), span(-5, 4), 1, span(-12, 15), api.OK}, {span(0, 0), span(-5, 4), 7, span(0, 0), api.OK}, {span(1, 1), span(1, 1), 2, span(0, 1), api.OK}, {span(1, 1), span(-1, -1), 2, span(-1, 0), api.OK},
		{span(-most, most), span(-most, most), most, span(-most, most), api.OK}, {span(0, most), span(most, most), most - 1, span(0, 0), api.ErrOver}, {span(-most, 0), span(most, most), most - 1, span(0, 0), api.ErrOver},
		{span(0, most), span(2, 3), 2, span(0, 0), api.ErrOver}, {span(666666666666667, 666666666666667), span(3, 3), 2, span(0, 0), api.ErrOver},
		{span(0, most), span(0, most), 0, span(0, 0), api.ErrRange},
	})
}

// P1.6 (Over), and example 4.
func TestOver(t *testing.T) {
	checkTwo(t, units.Over, badTwos())
	checkTwo(t, units.Over, []twoCase{
		{span(10, 11), span(3, 4), 1, span(2, 4), api.OK}, {span(-10, 11), span(3, 4), 100, span(-334, 367), api.OK}, {span(-11, -10), span(3, 4), 1, span(-4, -2), api.OK},
		{span(0, 0), span(1, 9), 5, span(0, 0), api.OK}, {span(8, 8), span(2, 4), 1, span(2, 4), api.OK}, {span(8, 8), span(1, 1), 3, span(24, 24), api.OK},
		{span(-most, most), span(most, most), most, span(-most, most), api.OK}, {span(most, most), span(most-1, most), most, span(0, 0), api.ErrOver}, {span(-most, 0), span(1, 1), 2, span(0, 0), api.ErrOver},
		{span(1, 2), span(0, 2), 1, span(0, 0), api.ErrRange}, {span(1, 2), span(-1, 2), 1, span(0, 0), api.ErrRange}, {span(1, most), span(0, 2), most, span(0, 0), api.ErrRange}, {span(2, 1), span(0, 2), 1, span(0, 0), api.ErrArg},
	})
}

// all returns what f makes of each number of a.
func all(a api.Range, f func(x int) *big.Rat) []*big.Rat {
	var l []*big.Rat
	for x := a.Low; x <= a.High; x++ {
		l = append(l, f(x))
	}
	return l
}

// P1.6, P1.13: the least range that has the results of all numbers of the ranges.
func TestRangesHaveAllResults(t *testing.T) {
	r := dice()
	for range 3000 {
		a, b, unit := smallRange(r, 12), smallRange(r, 12), 1+r.Intn(9)
		num := r.Intn(25) - 12
		want, wantE := leastRange(all(a, func(x int) *big.Rat { return ratio(x, num, unit) }))
		got, e := units.Scale(a, frac(num, unit))
		wantRange(t, "scale", got, e, want, wantE)

		var products, quotients []*big.Rat
		c := span(1+max(b.Low, -b.Low), 0)
		c.High = c.Low + r.Intn(5)
		for x := a.Low; x <= a.High; x++ {
			products = append(products, all(b, func(y int) *big.Rat { return ratio(x, y, unit) })...)
			quotients = append(quotients, all(c, func(y int) *big.Rat { return ratio(x, unit, y) })...)
		}
		want, wantE = leastRange(products)
		got, e = units.Times(a, b, unit)
		wantRange(t, "times", got, e, want, wantE)
		want, wantE = leastRange(quotients)
		got, e = units.Over(a, c, unit)
		wantRange(t, "over", got, e, want, wantE)
	}
}

// P1.6, P1.13: what the ends give, at any size.
func TestRangesOfAnySize(t *testing.T) {
	r := dice()
	for range 5000 {
		a, b, c, unit, num := anyRange(r), anyRange(r), span(anyDivisor(r), most), anyDivisor(r), anyNumber(r)
		c.High = c.Low + r.Intn(c.High-c.Low+1)
		var scaled, products, quotients []*big.Rat
		for _, x := range []int{a.Low, a.High} {
			scaled = append(scaled, ratio(x, num, unit))
			products = append(products, ratio(x, b.Low, unit), ratio(x, b.High, unit))
			quotients = append(quotients, ratio(x, unit, c.Low), ratio(x, unit, c.High))
		}
		want, wantE := leastRange(scaled)
		got, e := units.Scale(a, frac(num, unit))
		wantRange(t, "scale", got, e, want, wantE)
		want, wantE = leastRange(products)
		got, e = units.Times(a, b, unit)
		wantRange(t, "times", got, e, want, wantE)
		want, wantE = leastRange(quotients)
		got, e = units.Over(a, c, unit)
		wantRange(t, "over", got, e, want, wantE)
		want, wantE = leastRange([]*big.Rat{whole(a.Low + b.Low), whole(a.High + b.High)})
		got, e = units.Sum([]api.Range{a, b})
		wantRange(t, "sum", got, e, want, wantE)
		want, wantE = leastRange([]*big.Rat{whole(a.Low - b.High), whole(a.High - b.Low)})
		got, e = units.Less(a, b)
		wantRange(t, "less", got, e, want, wantE)
	}
}

// P1.13: with smaller ranges no result is wider.
func TestSmallerRangesAreNotWider(t *testing.T) {
	r := dice()
	wantInside := func(name string, small api.Range, e api.Errno, large api.Range, f api.Errno) {
		t.Helper()
		if e != api.OK || f != api.OK || !inside(small, large) {
			t.Fatal(name, small, e, large, f)
		}
	}
	for range 3000 {
		a, b, unit := smallRange(r, 1000), span(1+r.Intn(50), 100), 1+r.Intn(20)
		x := span(a.Low+r.Intn(a.High-a.Low+1), a.High)
		y := span(b.Low, b.High-r.Intn(b.High-b.Low+1))
		for name, f := range map[string]func(a, b api.Range) (api.Range, api.Errno){
			"sum":   func(a, b api.Range) (api.Range, api.Errno) { return units.Sum([]api.Range{a, b}) },
			"hull":  func(a, b api.Range) (api.Range, api.Errno) { return units.Hull([]api.Range{a, b}) },
			"less":  units.Less,
			"scale": func(a, b api.Range) (api.Range, api.Errno) { return units.Scale(a, frac(-7, unit)) },
			"times": func(a, b api.Range) (api.Range, api.Errno) { return units.Times(a, b, unit) },
			"over":  func(a, b api.Range) (api.Range, api.Errno) { return units.Over(a, b, unit) },
		} {
			small, e := f(x, y)
			large, g := f(a, b)
			wantInside(name, small, e, large, g)
		}
	}
}

// P1.7.
func TestMeet(t *testing.T) {
	checkList(t, units.Meet, badLists())
	checkList(t, units.Meet, []listCase{
		{"one number", []api.Range{span(1, 5), span(-3, 2), span(2, 9)}, span(2, 2), api.OK},
		{"one range", []api.Range{span(-3, 2)}, span(-3, 2), api.OK},
		{"inside", []api.Range{span(-most, most), span(-7, -4)}, span(-7, -4), api.OK},
		{"many", repeat(span(-1, 2), api.MaxRanges), span(-1, 2), api.OK},
		{"just apart", []api.Range{span(1, 2), span(3, 4)}, span(0, 0), api.ErrNone},
		{"just apart the other way round", []api.Range{span(3, 4), span(1, 2)}, span(0, 0), api.ErrNone},
		{"each two meet", []api.Range{span(0, 9), span(0, 3), span(6, 9)}, span(0, 0), api.ErrNone},
		{"nil", nil, span(0, 0), api.ErrArg},
		{"none", []api.Range{}, span(0, 0), api.ErrArg},
		{"apart, and not valid", []api.Range{span(1, 2), span(3, 4), span(6, 5)}, span(0, 0), api.ErrArg},
	})
}

// P1.7.
func TestHull(t *testing.T) {
	checkList(t, units.Hull, badLists())
	checkList(t, units.Hull, []listCase{
		{"three", []api.Range{span(1, 5), span(-3, 2), span(2, 9)}, span(-3, 9), api.OK},
		{"apart", []api.Range{span(7, 8), span(1, 2)}, span(1, 8), api.OK},
		{"one", []api.Range{span(3, 4)}, span(3, 4), api.OK},
		{"inside", []api.Range{span(-7, -4), span(-most, most), span(0, 0)}, span(-most, most), api.OK},
		{"many", repeat(span(-1, 2), api.MaxRanges), span(-1, 2), api.OK},
		{"nil", nil, span(0, 0), api.ErrArg},
		{"none", []api.Range{}, span(0, 0), api.ErrArg},
	})
}

// P1.8, and example 5.
func TestBalance(t *testing.T) {
	three := []api.Range{span(0, 10), span(3, 5), span(2, 9)}
	full := repeat(span(most, most), 2)
	for _, c := range []struct {
		name  string
		parts []api.Range
		whole api.Range
		want  []api.Range
		sum   api.Range
		e     api.Errno
	}{
		{"example", three, span(18, 30), []api.Range{span(4, 10), span(3, 5), span(3, 9)}, span(18, 24), api.OK},
		{"most", three, span(24, 24), []api.Range{span(10, 10), span(5, 5), span(9, 9)}, span(24, 24), api.OK},
		{"least", three, span(-9, 5), []api.Range{span(0, 0), span(3, 3), span(2, 2)}, span(5, 5), api.OK},
		{"from above", three, span(0, 7), []api.Range{span(0, 2), span(3, 5), span(2, 4)}, span(5, 7), api.OK},
		{"all", three, span(-most, most), three, span(5, 24), api.OK},
		{"one part", []api.Range{span(-5, 5)}, span(-9, -4), []api.Range{span(-5, -4)}, span(-5, -4), api.OK},
		{"no parts", nil, span(-1, 1), nil, span(0, 0), api.OK},
		{"no parts, just 0", []api.Range{}, span(0, 0), nil, span(0, 0), api.OK},
		{"sums that are not numbers", []api.Range{span(0, most), span(0, most), span(-1, most)}, span(most, most), []api.Range{span(0, most), span(0, most), span(-1, most)}, span(most, most), api.OK},
		{"many", repeat(span(0, 1), api.MaxRanges), span(100, 200), repeat(span(1, 1), api.MaxRanges), span(100, 100), api.OK},
		{"just above", three, span(25, 30), nil, span(0, 0), api.ErrNone},
		{"just below", three, span(0, 4), nil, span(0, 0), api.ErrNone},
		{"no parts, not 0", nil, span(1, 5), nil, span(0, 0), api.ErrNone},
		{"only beyond all numbers", full, span(-most, most), nil, span(0, 0), api.ErrNone},
		{"too many", repeat(span(1, 0), api.MaxRanges+1), span(7, 6), nil, span(0, 0), api.ErrLong},
		{"part", []api.Range{span(1, 0)}, span(5, 6), nil, span(0, 0), api.ErrArg},
		{"part that is no number", []api.Range{span(0, most+1)}, span(5, 6), nil, span(0, 0), api.ErrArg},
		{"whole", three, span(7, 6), nil, span(0, 0), api.ErrArg},
		{"whole that is no number", three, span(-most-1, 6), nil, span(0, 0), api.ErrArg},
	} {
		if l, sum, e := units.Balance(c.parts, c.whole); !slices.Equal(l, c.want) || sum != c.sum || e != c.e {
			t.Error(c.name, l, sum, e)
		}
	}
}

// plainBalance tries all assignments.
func plainBalance(parts []api.Range, whole api.Range) (narrow []api.Range, sum api.Range, ok bool) {
	chosen := make([]int, len(parts)+1) // and the sum
	var seen []api.Range
	var try func(i, total int)
	try = func(i, total int) {
		if i < len(parts) {
			for x := parts[i].Low; x <= parts[i].High; x++ {
				chosen[i] = x
				try(i+1, total+x)
			}
			return
		}
		if total < whole.Low || total > whole.High {
			return
		}
		chosen[i] = total
		if seen == nil {
			for _, x := range chosen {
				seen = append(seen, span(x, x))
			}
		}
		for j, x := range chosen {
			seen[j] = span(min(seen[j].Low, x), max(seen[j].High, x))
		}
	}
	try(0, 0)
	if seen == nil {
		return nil, api.Range{}, false
	}
	return seen[:len(parts)], seen[len(parts)], true
}

// P1.8, P1.14: what all assignments have, and balancing again changes nothing.
func TestBalanceIsReached(t *testing.T) {
	r := dice()
	for range 3000 {
		parts := make([]api.Range, r.Intn(4))
		for i := range parts {
			parts[i] = smallRange(r, 5)
		}
		whole := smallRange(r, 15)
		want, wantSum, ok := plainBalance(parts, whole)
		l, sum, e := units.Balance(parts, whole)
		if !ok {
			if l != nil || sum != (api.Range{}) || e != api.ErrNone {
				t.Fatal(parts, whole, l, sum, e)
			}
			continue
		}
		if !slices.Equal(l, want) || sum != wantSum || e != api.OK {
			t.Fatal(parts, whole, l, sum, e)
		}
		again, sumAgain, e := units.Balance(l, sum)
		if !slices.Equal(again, l) || sumAgain != sum || e != api.OK {
			t.Fatal("again", parts, whole, again, sumAgain, e)
		}
	}
}
