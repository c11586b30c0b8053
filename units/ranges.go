package units

import (
	"boule/api"
	"boule/check"
)

// gathered is the least range that has all results that were added.
type gathered struct {
	api.Range
	some bool // a result was added
	over bool // an end of one of them is not a number
}

func (g *gathered) add(low, high int) {
	if !g.some {
		g.Range, g.some = api.Range{Low: low, High: high}, true
		return
	}
	g.Low, g.High = min(g.Low, low), max(g.High, high)
}

// addQuotient adds a times b divided by c. What is over here is over in the
// end: with more results the ends only move outwards.
func (g *gathered) addQuotient(a, b, c int) {
	w := product(a, b)
	low, _, lowOk := w.divide(c, api.Down)
	high, _, highOk := w.divide(c, api.Up)
	g.over = g.over || !lowOk || !highOk
	g.add(low, high)
}

func (g gathered) result() (api.Range, api.Errno) {
	if g.over {
		return api.Range{}, api.ErrOver
	}
	return g.Range, api.OK
}

// limited returns r, or an error if an end of it is not a number.
func limited(r api.Range) (api.Range, api.Errno) {
	if !areNumbers(r.Low, r.High) {
		return api.Range{}, api.ErrOver
	}
	return r, api.OK
}

func ends(r api.Range) [2]int { return [2]int{r.Low, r.High} }

// common returns the numbers that both ranges have. It is not ok if there are none.
func common(a, b api.Range) (r api.Range, ok bool) {
	r = api.Range{Low: max(a.Low, b.Low), High: min(a.High, b.High)}
	return r, r.Low <= r.High
}

// total returns the range of all sums, whose ends need not be numbers.
func total(l []api.Range) api.Range {
	var t api.Range
	for _, r := range l {
		t.Low += r.Low
		t.High += r.High
	}
	return t
}

// Sum returns the range of all sums of one number of each range.
func Sum(l []api.Range) (api.Range, api.Errno) {
	if e := check.First(check.AtMost(api.MaxRanges, len(l)), validRanges(l...)); e != api.OK {
		return api.Range{}, e
	}
	return limited(total(l))
}

// Less returns the range of all differences.
func Less(a, b api.Range) (api.Range, api.Errno) {
	if e := check.First(validRanges(a, b)); e != api.OK {
		return api.Range{}, e
	}
	return limited(api.Range{Low: a.Low - b.High, High: a.High - b.Low})
}

// Scale returns the least range that has all numbers of a range times a fraction.
func Scale(r api.Range, f api.Frac) (api.Range, api.Errno) {
	if e := check.First(validRanges(r), validFractions(f)); e != api.OK {
		return api.Range{}, e
	}
	var g gathered
	for _, x := range ends(r) {
		g.addQuotient(x, f.Num, f.Den)
	}
	return g.result()
}

// Times returns the least range that has all products, divided by a unit.
func Times(a, b api.Range, unit int) (api.Range, api.Errno) {
	e := check.First(
		validRanges(a, b),
		check.Unless(api.ErrRange, func() bool { return isDivisor(unit) }),
	)
	if e != api.OK {
		return api.Range{}, e
	}
	var g gathered
	for _, x := range ends(a) {
		for _, y := range ends(b) {
			g.addQuotient(x, y, unit)
		}
	}
	return g.result()
}

// Over returns the least range that has all quotients, times a unit.
func Over(a, b api.Range, unit int) (api.Range, api.Errno) {
	e := check.First(
		validRanges(a, b),
		check.Unless(api.ErrRange, func() bool { return isDivisor(unit) && b.Low >= 1 }),
	)
	if e != api.OK {
		return api.Range{}, e
	}
	var g gathered
	for _, x := range ends(a) {
		for _, y := range ends(b) {
			g.addQuotient(x, unit, y)
		}
	}
	return g.result()
}

// someRanges demands a list of ranges that is valid and not empty.
func someRanges(l []api.Range) api.Errno {
	return check.First(
		check.AtMost(api.MaxRanges, len(l)),
		validRanges(l...),
		check.Unless(api.ErrArg, func() bool { return len(l) > 0 }),
	)
}

// Meet returns the numbers that all ranges have.
func Meet(l []api.Range) (api.Range, api.Errno) {
	if e := someRanges(l); e != api.OK {
		return api.Range{}, e
	}
	shared := l[0]
	for _, r := range l[1:] {
		met, ok := common(shared, r)
		if !ok {
			return api.Range{}, api.ErrNone
		}
		shared = met
	}
	return shared, api.OK
}

// Hull returns the least range that has all numbers of some ranges.
func Hull(l []api.Range) (api.Range, api.Errno) {
	if e := someRanges(l); e != api.OK {
		return api.Range{}, e
	}
	var g gathered
	for _, r := range l {
		g.add(r.Low, r.High)
	}
	return g.result()
}

// Balance narrows ranges of parts, and of their sum, by each other.
func Balance(parts []api.Range, whole api.Range) (narrow []api.Range, sum api.Range, e api.Errno) {
	e = check.First(check.AtMost(api.MaxRanges, len(parts)), validRanges(parts...), validRanges(whole))
	if e != api.OK {
		return nil, api.Range{}, e
	}
	all := total(parts)
	sum, ok := common(all, whole)
	if !ok {
		return nil, api.Range{}, api.ErrNone
	}
	narrow = make([]api.Range, len(parts))
	for i, p := range parts {
		// A part is least where all others are greatest, and the other way round.
		others := api.Range{Low: all.Low - p.Low, High: all.High - p.High}
		left := api.Range{Low: sum.Low - others.High, High: sum.High - others.Low}
		narrow[i], _ = common(p, left)
	}
	return narrow, sum, api.OK
}
