package defect

import (
	"cmp"
	"math/bits"
	"slices"
	"sort"

	"boule/api"
	"boule/check"
)

// validZones demands a valid model, zones of it and a set of regions.
func validZones(m api.DefectModel, zones []api.Range, wanted api.RegionSet) check.Condition {
	return func() api.Errno {
		return check.First(
			validModel(m),
			check.AtMost(api.MaxZones, len(zones)),
			check.Unless(api.ErrArg, func() bool { return areGradients(zones...) && isSet(wanted) }),
		)
	}
}

// firstAbove returns the first rate that is above a border at a gradient, or
// the one after the last rate.
func firstAbove(m api.DefectModel, border, gradient int) int {
	return sort.Search(api.MaxSpeed+1, func(rate int) bool { return above(m, rate, border, gradient) })
}

// spoilt returns the rates at which a zone can be in a region that is not
// wanted, region by region.
func spoilt(m api.DefectModel, zone api.Range, wanted api.RegionSet) []api.Range {
	var l []api.Range
	for k, b := range sides(m) {
		if wanted&only(k) != 0 || b.Low >= b.High {
			continue
		}
		r := api.Range{Low: firstAbove(m, b.Low, zone.Low), High: firstAbove(m, b.High, zone.High) - 1}
		if r.Low <= r.High {
			l = append(l, r)
		}
	}
	return l
}

// gaps returns the runs of rates that are in none of some ranges.
func gaps(l []api.Range) []api.Range {
	slices.SortFunc(l, func(a, b api.Range) int { return cmp.Compare(a.Low, b.Low) })
	var runs []api.Range
	next := 0
	for _, r := range l {
		if next < r.Low {
			runs = append(runs, api.Range{Low: next, High: r.Low - 1})
		}
		next = max(next, r.High+1)
	}
	if next <= api.MaxSpeed {
		runs = append(runs, api.Range{Low: next, High: api.MaxSpeed})
	}
	return runs
}

// Window returns the pull rates that keep all zones in regions that are wanted.
func Window(m api.DefectModel, zones []api.Range, wanted api.RegionSet) ([]api.Range, api.Errno) {
	if e := check.First(validZones(m, zones, wanted)); e != api.OK {
		return nil, e
	}
	var l []api.Range
	for _, z := range zones {
		l = append(l, spoilt(m, z, wanted)...)
	}
	return gaps(l), api.OK
}

// Why returns the first zone that can be in a region that is not wanted, and the region.
func Why(m api.DefectModel, zones []api.Range, wanted api.RegionSet, rate int) (zone int, region api.Region, e api.Errno) {
	exact := api.Range{Low: rate, High: rate}
	e = check.First(
		validZones(m, zones, wanted),
		check.Unless(api.ErrRange, func() bool { return isRate(exact) }),
	)
	if e != api.OK {
		return 0, 0, e
	}
	for i, z := range zones {
		if bad := regions(m, exact, z) &^ wanted; bad != 0 {
			return i, api.Region(bits.TrailingZeros8(uint8(bad))), api.OK
		}
	}
	return -1, 0, api.OK
}
