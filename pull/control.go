package pull

import (
	"boule/api"
	"boule/check"
	"boule/units"
)

// Seen returns between which numbers the diameter is, by a meniscus ring.
func Seen(o api.Optics, ring api.Ring) (api.Range, api.Errno) {
	e := check.First(check.Unless(api.ErrArg, func() bool {
		return check.AreRanges(api.MaxPulled, o.Scale, o.InnerGap, o.OuterGap, ring.Inner, ring.Outer)
	}))
	if e != api.OK {
		return api.Range{}, e
	}
	// With these limits no end is above the greatest number.
	says := func(edge, gap api.Range) api.Range {
		wide, _ := units.Times(edge, o.Scale, 1000000)
		r, _ := units.Less(wide, gap)
		return r
	}
	r, e := units.Meet([]api.Range{says(ring.Inner, o.InnerGap), says(ring.Outer, o.OuterGap)})
	if e != api.OK {
		return api.Range{}, api.ErrSight
	}
	return r, api.OK
}

// areGains reports whether the gains of all gauges are allowed.
func areGains(gains map[int]api.Frac) bool {
	for _, f := range gains {
		if f.Num < -api.MaxGauge || f.Num > api.MaxGauge || f.Den < 1 || f.Den > api.MaxGauge {
			return false
		}
	}
	return true
}

// Steer returns the next setting of a puller.
func Steer(p api.Puller, g api.Gains, before api.PullSetting, at int, seen api.Range) (api.PullSetting, api.Errno) {
	gains := map[int]api.Frac{api.PullRate: g.Rate, api.Heat: g.Heat}
	e := check.First(
		validPuller(p),
		check.Unless(api.ErrArg, func() bool { return isSetting(before) && areGains(gains) }),
		check.Unless(api.ErrRange, func() bool {
			return before.At < at && at <= api.LastSecond && check.AreRanges(api.MaxWidth, seen)
		}),
	)
	if e != api.OK {
		return api.PullSetting{}, e
	}
	twice := seen.Low + seen.High - p.Limits.Low - p.Limits.High
	asked := p.Rules[before.Phase-api.PhaseSeed]
	next := api.PullSetting{At: at, Phase: before.Phase}
	for gauge, wanted := range before.Values {
		if f, ok := gains[gauge]; ok {
			more, _, _ := units.MulDiv(twice, f.Num, 2*f.Den, api.Near)
			wanted += more
		}
		can, e := units.Meet([]api.Range{asked.Bounds[gauge], reach(before, at, gauge, asked.Ramp)})
		if e != api.OK {
			return api.PullSetting{}, e
		}
		next.Values[gauge] = min(max(wanted, can.Low), can.High)
	}
	return next, api.OK
}
