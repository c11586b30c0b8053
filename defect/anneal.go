package defect

import (
	"boule/api"
	"boule/check"
	"boule/units"
)

func areHeatSteps(l []api.HeatStep) bool {
	for _, s := range l {
		if s.Dissolved < 0 || s.Dissolved > api.MaxOxygen || !check.AreRanges(api.Whole, s.Speeds[:]...) {
			return false
		}
	}
	return true
}

// falls returns from which to which number of units can fall out in a step.
func falls(s api.HeatStep, oxygen, region int) api.Range {
	excess := max(0, oxygen-s.Dissolved)
	r, _ := units.Times(api.Range{Low: excess, High: excess}, s.Speeds[region], api.Whole)
	return r
}

// kept returns from which to which number of units can be left after all steps.
// A unit more before a step is a unit more after it, or none: so what is left is
// most if the least falls out each time, and least if the most does.
func kept(l []api.HeatStep, oxygen, region int) api.Range {
	after := func(choose func(can api.Range) int) int {
		left := oxygen
		for _, s := range l {
			left -= choose(falls(s, left, region))
		}
		return left
	}
	return api.Range{
		Low:  after(func(can api.Range) int { return can.High }),
		High: after(func(can api.Range) int { return can.Low }),
	}
}

// Anneal returns how much oxygen is left after a heat treatment, and how much falls out.
func Anneal(l []api.HeatStep, oxygen api.Range, can api.RegionSet) (left, fallen api.Range, e api.Errno) {
	e = check.First(
		check.AtMost(api.MaxAnneals, len(l)),
		check.Unless(api.ErrArg, func() bool {
			return areHeatSteps(l) && check.AreRanges(api.MaxOxygen, oxygen) && isSet(can)
		}),
		check.Unless(api.ErrNone, func() bool { return can != 0 }),
	)
	if e != api.OK {
		return api.Range{}, api.Range{}, e
	}
	var lefts, fallens []api.Range
	for k := range api.RegionKinds {
		if can&only(k) == 0 {
			continue
		}
		// With more oxygen at first, neither what is left is less, nor what fell out.
		few, many := kept(l, oxygen.Low, k), kept(l, oxygen.High, k)
		lefts = append(lefts, api.Range{Low: few.Low, High: many.High})
		fallens = append(fallens, api.Range{Low: oxygen.Low - few.High, High: oxygen.High - many.Low})
	}
	left, _ = units.Hull(lefts)
	fallen, _ = units.Hull(fallens)
	return left, fallen, api.OK
}
