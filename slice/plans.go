package slice

import (
	"boule/api"
	"boule/check"
)

// Pitches returns the pitches with which a number of slices surely meet a target.
func Pitches(w api.Wire, slurry api.Range, slices int, target api.Range) (api.Range, api.Errno) {
	e := check.First(
		check.Unless(api.ErrArg, func() bool { return isWire(w) && check.AreRanges(api.MaxPitch, slurry, target) }),
		check.Unless(api.ErrRange, func() bool { return 1 <= slices && slices <= api.MaxWires }),
	)
	if e != api.OK {
		return api.Range{}, e
	}
	// No slice can be thinner than the first one, and none thicker than the last one.
	narrowest := worn(w.Diameter.Low, (slices-1)*w.Wear.High) + slurry.Low
	r := api.Range{
		Low:  widest(w, slurry) + max(1, target.Low), // No cut is as wide as the pitch.
		High: min(api.MaxPitch, narrowest+target.High),
	}
	if r.Low > r.High {
		return api.Range{}, api.ErrNone
	}
	return r, api.OK
}

// Runs returns how many blocks can surely, and possibly, be cut with one wire.
func Runs(w api.Wire, b api.Web, length int) (sure, possible int, e api.Errno) {
	if e = Check(w, b, length); e != api.OK {
		return 0, 0, e
	}
	s := saw{w, b, length}
	return s.runs(w.Diameter.Low, w.Wear.High), s.runs(w.Diameter.High, w.Wear.Low), api.OK
}

// runs returns how many blocks a wire cuts before one in which it breaks, if it
// becomes thinner by the same in all grooves.
func (s saw) runs(diameter, wear int) int {
	used := s.used()
	for n := range api.MaxRuns {
		// In the last groove of a block the wire is as thin as anywhere in it.
		before := (n+1)*used - 1
		if used > 0 && worn(diameter, before*wear) < s.Least {
			return n
		}
	}
	return api.MaxRuns
}
