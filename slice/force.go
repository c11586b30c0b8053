package slice

import (
	"boule/api"
	"boule/check"
	"boule/units"
)

// isForce reports whether a number is a force that is at least so great.
func isForce(least, n int) bool { return least <= n && n <= api.MaxForce }

// validStiffness demands a range of the stiffness of a wire.
func validStiffness(r api.Range) check.Condition {
	return check.Unless(api.ErrArg, func() bool { return check.AreRanges(api.MaxForce, r) })
}

// Bow returns the range of the bow of a wire.
func Bow(stiffness api.Range, feed, tension int) (api.Range, api.Errno) {
	e := check.First(
		validStiffness(stiffness),
		check.Unless(api.ErrRange, func() bool { return isForce(0, feed) && isForce(1, tension) }),
	)
	if e != api.OK {
		return api.Range{}, e
	}
	return units.Times(stiffness, api.Range{Low: feed, High: feed}, tension)
}

// Feed returns the greatest feed with which the bow is surely not above a limit.
func Feed(stiffness api.Range, tension, most int) (int, api.Errno) {
	e := check.First(
		validStiffness(stiffness),
		check.Unless(api.ErrRange, func() bool {
			return isForce(1, tension) && 0 <= most && most <= api.MaxForce*api.MaxForce
		}),
	)
	if e != api.OK {
		return 0, e
	}
	reach := most * tension // What the greatest stiffness times the feed may be.
	if stiffness.High*api.MaxForce <= reach {
		return api.MaxForce, api.OK
	}
	return reach / stiffness.High, api.OK
}
