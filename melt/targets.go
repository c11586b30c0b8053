package melt

import (
	"math/bits"
	"sort"

	"boule/api"
	"boule/check"
	"boule/units"
)

// isAmount reports whether a range is one of contents or of concentrations.
func isAmount(r api.Range) bool { return check.AreRanges(api.MaxNumber/1000, r) }

// Concentration returns the units of a species in a kilogram of a slice.
func Concentration(x api.Frozen, s api.Species) (api.Range, api.Errno) {
	e := check.First(
		isThere(s),
		check.Unless(api.ErrArg, func() bool {
			return 1 <= x.Mass && x.Mass <= api.MaxMelt && isAmount(x.Content[s])
		}),
	)
	if e != api.OK {
		return api.Range{}, e
	}
	return units.Scale(x.Content[s], api.Frac{Num: api.Kilogram, Den: x.Mass})
}

// Judge returns for each slice of a run whether its concentration lies in a target.
func Judge(m api.Melt, l []api.Step, s api.Species, target api.Range) ([]api.Grade, api.Errno) {
	e := check.First(
		validRun(m, l),
		isThere(s),
		check.Unless(api.ErrArg, func() bool { return isAmount(target) }),
	)
	if e != api.OK {
		return nil, e
	}
	r, _ := Predict(m, l)
	grades := make([]api.Grade, len(r.Slices))
	for i, x := range r.Slices {
		// All numbers from the least to the greatest content are contents in some
		// course: what a step can choose, and what it can leave, has no gaps, as from
		// one content of the melt to the next one the ends of both grow by a unit at
		// most.
		grades[i] = check.Grade(x.Content[s], contentsFor(target, x.Mass))
	}
	return grades, api.OK
}

// contentsFor returns the contents with which a slice meets a target: none if
// Low is above High.
func contentsFor(target api.Range, mass int) api.Range {
	low, _, _ := units.MulDiv(target.Low, mass, api.Kilogram, api.Up)
	high, _, _ := units.MulDiv(target.High, mass, api.Kilogram, api.Down)
	return api.Range{Low: low, High: high}
}

// notAbove reports whether a times b is at most c times d. None of them is below 0.
func notAbove(a, b, c, d int) bool {
	high, low := bits.Mul64(uint64(a), uint64(b))
	most, rest := bits.Mul64(uint64(c), uint64(d))
	return high < most || high == most && low <= rest
}

// firstFrom returns the least number from least on for which a condition holds,
// or most if it holds for none below that. The condition is linear: once it is
// true after it was not, it stays so.
func firstFrom(least, most int, holds func(int) bool) int {
	if holds(least) {
		return least
	}
	return least + sort.Search(most-least, func(i int) bool { return holds(least + i) })
}

// Refill returns the least mass of feed with which the next slice surely meets a target.
func Refill(m api.Melt, feed api.Range, coefficient api.Range, target api.Range, s api.Species) (int, api.Errno) {
	e := check.First(
		validMelt(m),
		isThere(s),
		check.Unless(api.ErrArg, func() bool {
			return check.AreRanges(api.MaxRate, feed, target) && check.AreRanges(api.MaxShare, coefficient)
		}),
	)
	if e != api.OK {
		return 0, e
	}
	content := m.Content[s]
	notTooMuch := func(x int) bool {
		return notAbove(coefficient.High, api.Kilogram*content.High+feed.High*x, api.Whole*target.High, m.Mass+x)
	}
	enough := func(x int) bool {
		return notAbove(api.Whole*target.Low, m.Mass+x, coefficient.Low, api.Kilogram*content.Low+feed.Low*x)
	}
	least, room := 0, api.MaxMelt-m.Mass
	if m.Mass == 0 {
		least = 1 // What has no mass has no concentration.
	}
	x := max(firstFrom(least, room, notTooMuch), firstFrom(least, room, enough))
	// Where one condition begins to hold, the other one may have ceased to.
	if !notTooMuch(x) || !enough(x) {
		return 0, api.ErrFull
	}
	return x, api.OK
}
