package slice

import (
	"boule/api"
	"boule/check"
)

// Predict returns the ranges of what becomes of a block over all courses.
func Predict(w api.Wire, b api.Web, length int) (api.Sliced, api.Errno) {
	if e := Check(w, b, length); e != api.OK {
		return api.Sliced{}, e
	}
	s := saw{w, b, length}
	wide, narrow := s.follow(s.wide()), s.follow(s.narrow())
	x := api.Sliced{
		Kerf:   api.Range{Low: narrow.kerf, High: wide.kerf},
		Ends:   api.Range{Low: wide.ends(), High: narrow.ends()},
		Wire:   api.Range{Low: narrow.wire, High: wide.wire},
		Breaks: breaking(wide, narrow),
	}
	for i := range wide.Slices {
		x.Slices = append(x.Slices, api.Range{Low: wide.Slices[i], High: narrow.Slices[i]})
	}
	return x, api.OK
}

// breaking says whether the wire breaks, by what it does where it is as thick,
// and where it is as thin as it can be.
func breaking(thick, thin outcome) api.Grade {
	switch {
	case thick.breaks:
		return api.Surely
	case thin.breaks:
		return api.Possibly
	}
	return api.Never
}

// Follow returns how a block is cut in one course, and the diameter of the wire behind the last groove.
func Follow(w api.Wire, b api.Web, length int, c api.Cutting) (api.Parts, int, api.Errno) {
	s := saw{w, b, length}
	e := check.First(
		validSaw(w, b, length),
		check.Unless(api.ErrArg, func() bool { return len(c.Wear) == s.used() && len(c.Slurry) == s.used() }),
		check.Unless(api.ErrCourse, func() bool {
			return lie(s.Diameter, c.Diameter) && lie(s.Wear, c.Wear...) && lie(s.Slurry, c.Slurry...)
		}),
	)
	if e != api.OK {
		return api.Parts{}, 0, e
	}
	x := s.follow(chosen(c))
	return x.Parts, x.wire, api.OK
}

// Judge returns for each slice whether its thickness lies in a target.
func Judge(w api.Wire, b api.Web, length int, target api.Range) ([]api.Grade, api.Errno) {
	e := check.First(
		validSaw(w, b, length),
		check.Unless(api.ErrArg, func() bool { return target.Low <= target.High }),
	)
	if e != api.OK {
		return nil, e
	}
	x, _ := Predict(w, b, length)
	var grades []api.Grade
	for _, thickness := range x.Slices {
		// The thickness can be all numbers of its range: what is chosen can be changed by 1 at a time.
		grades = append(grades, check.Grade(thickness, target))
	}
	return grades, api.OK
}
