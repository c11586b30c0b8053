package crop

import (
	"boule/api"
	"boule/check"
)

func isSlab(s api.Slab) bool {
	return 1 <= s.Length && s.Length <= api.MaxLength && check.AreRanges(api.MaxDiameter, s.Diameter)
}

// validDiameter demands a diameter to which slabs can be ground.
func validDiameter(diameter int) check.Condition {
	return check.Unless(api.ErrRange, func() bool { return 1 <= diameter && diameter <= api.MaxDiameter })
}

func section(length, diameter int) int { return length * diameter * diameter }

// Grind returns what is kept of a slab, and what is removed of it, when it is ground to a diameter.
func Grind(s api.Slab, diameter int) (kept int, removed api.Range, e api.Errno) {
	e = check.First(
		check.Unless(api.ErrArg, func() bool { return isSlab(s) }),
		validDiameter(diameter),
		check.Unless(api.ErrThin, func() bool { return s.Diameter.Low >= diameter }),
	)
	if e != api.OK {
		return 0, api.Range{}, e
	}
	kept = section(s.Length, diameter)
	removed.Low = section(s.Length, s.Diameter.Low) - kept
	removed.High = section(s.Length, s.Diameter.High) - kept
	return kept, removed, api.OK
}

// Round returns for each slab whether it can be ground to a diameter.
func Round(l []api.Slab, diameter int) ([]api.Grade, api.Errno) {
	e := check.First(
		check.AtMost(api.MaxStretches, len(l)),
		check.Each(l, func(_ int, s api.Slab) api.Errno {
			if !isSlab(s) {
				return api.ErrArg
			}
			return api.OK
		}),
		validDiameter(diameter),
	)
	if e != api.OK {
		return nil, e
	}
	var grades []api.Grade
	for _, s := range l {
		grades = append(grades, grade(s.Diameter, diameter))
	}
	return grades, api.OK
}

// grade tells whether a slab that is as thick as a range is thick enough.
func grade(r api.Range, diameter int) api.Grade {
	switch {
	case r.Low >= diameter:
		return api.Surely
	case r.High < diameter:
		return api.Never
	}
	return api.Possibly
}
