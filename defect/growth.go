package defect

import (
	"boule/api"
	"boule/check"
	"boule/units"
)

const (
	maxFactor = 20000 // a factor of the gradients, in ten-thousandths
	maxCuts   = 500
)

// isTable reports whether a table is valid and has all its Y within a range.
func isTable(t []api.Knot, y api.Range) bool {
	if units.CheckTable(t) != api.OK {
		return false
	}
	for _, k := range t {
		if k.Y < y.Low || k.Y > y.High {
			return false
		}
	}
	return true
}

// places returns the range from the first X of a table to the last one.
func places(t []api.Knot) api.Range {
	return api.Range{Low: t[0].X, High: t[len(t)-1].X}
}

func isGrowth(g api.Growth) bool {
	return isTable(g.Rates, api.Range{Low: 0, High: api.MaxSpeed}) &&
		isTable(g.Factors, api.Range{Low: 1, High: maxFactor}) &&
		places(g.Rates) == places(g.Factors) &&
		check.AreRanges(api.LastPlace, places(g.Rates)) &&
		0 <= g.Off && g.Off <= api.MaxSpeed &&
		1 <= len(g.Zones) && len(g.Zones) <= api.MaxZones &&
		areGradients(g.Zones...)
}

// areCuts reports whether cuts ascend strictly within a range.
func areCuts(cuts []int, within api.Range) bool {
	for i, c := range cuts {
		if c < within.Low || c > within.High || i > 0 && c <= cuts[i-1] {
			return false
		}
	}
	return true
}

// validGrowth demands that a growth is valid.
func validGrowth(g api.Growth) check.Condition {
	return check.Unless(api.ErrArg, func() bool { return isGrowth(g) })
}

// CheckGrowth returns the error of a growth.
func CheckGrowth(g api.Growth) api.Errno { return check.First(validGrowth(g)) }

// clamped returns a range whose ends are moved to the nearest number within limits.
func clamped(r, limits api.Range) api.Range {
	clamp := func(n int) int { return min(max(n, limits.Low), limits.High) }
	return api.Range{Low: clamp(r.Low), High: clamp(r.High)}
}

// printed returns the regions that each zone can be in between two places.
// With the limits of this chapter no function of package units has an error.
func printed(m api.DefectModel, g api.Growth, from, to int) []api.RegionSet {
	at := api.Range{Low: from, High: to}
	rate, _ := units.Value(g.Rates, at)
	rate = clamped(api.Range{Low: rate.Low - g.Off, High: rate.High + g.Off}, api.Range{Low: 0, High: api.MaxSpeed})
	factor, _ := units.Value(g.Factors, at)
	sets := make([]api.RegionSet, len(g.Zones))
	for i, z := range g.Zones {
		gradient, _ := units.Times(z, factor, api.Whole)
		sets[i] = regions(m, rate, clamped(gradient, api.Range{Low: 1, High: api.MaxSlope}))
	}
	return sets
}

// Print returns the regions that each zone can be in, slice by slice.
func Print(m api.DefectModel, g api.Growth, cuts []int) ([][]api.RegionSet, api.Errno) {
	e := check.First(
		validModel(m),
		validGrowth(g),
		check.AtMost(maxCuts, len(cuts)),
		check.Unless(api.ErrRange, func() bool { return areCuts(cuts, places(g.Rates)) }),
	)
	if e != api.OK {
		return nil, e
	}
	var l [][]api.RegionSet
	for i := 1; i < len(cuts); i++ {
		l = append(l, printed(m, g, cuts[i-1], cuts[i]))
	}
	return l, api.OK
}

// areWanted reports whether all sets have only regions that are wanted.
func areWanted(sets []api.RegionSet, wanted api.RegionSet) bool {
	for _, s := range sets {
		if s&^wanted != 0 {
			return false
		}
	}
	return true
}

// Usable returns the stretches in which all zones are in regions that are wanted.
func Usable(m api.DefectModel, g api.Growth, wanted api.RegionSet) ([]api.Range, api.Errno) {
	e := check.First(
		validModel(m),
		check.Unless(api.ErrArg, func() bool { return isGrowth(g) && isSet(wanted) }),
	)
	if e != api.OK {
		return nil, e
	}
	var l []api.Range
	for k := places(g.Rates).Low; k < places(g.Rates).High; k++ {
		switch {
		case !areWanted(printed(m, g, k, k+1), wanted):
		case len(l) > 0 && l[len(l)-1].High == k:
			l[len(l)-1].High = k + 1
		default:
			l = append(l, api.Range{Low: k, High: k + 1})
		}
	}
	return l, api.OK
}
