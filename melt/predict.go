package melt

import (
	"boule/api"
	"boule/check"
)

// lanes returns the lane of each species, by its number.
func lanes(m api.Melt, l []api.Step) [3]lane {
	var all [3]lane
	for s := range all {
		all[s] = lane{m, l, api.Species(s)}
	}
	return all
}

// Predict returns the ranges of all contents over all courses of a run.
func Predict(m api.Melt, l []api.Step) (api.Run, api.Errno) {
	if e := Check(m, l); e != api.OK {
		return api.Run{}, e
	}
	r := api.Run{End: api.Melt{Mass: m.Mass}}
	for _, x := range l {
		r.End.Mass = after(r.End.Mass, x)
		if x.Kind == api.Freeze {
			r.Slices = append(r.Slices, api.Frozen{Mass: x.Mass})
		}
	}
	for _, one := range lanes(m, l) {
		one.predict(&r, false)
		one.predict(&r, true)
	}
	return r, api.OK
}

// predict sets the greatest contents of the species in a run, or the least ones.
func (l lane) predict(r *api.Run, most bool) {
	set := func(to *api.Bounds, n int) {
		if most {
			to[l.species].High = n
		} else {
			to[l.species].Low = n
		}
	}
	left, slice := l.start(most), 0
	for x := range l.extreme(most, nothing) {
		left = x.left
		if x.Kind == api.Freeze {
			// Before it the melt has as much as it can have, or as little.
			set(&r.Slices[slice].Content, end(x.can, most))
			slice++
		}
	}
	solid, vapour := l.sums(most, api.Freeze), l.sums(most, api.Vapour)
	set(&r.End.Content, left)
	set(&r.Solid, solid[api.Freeze])
	set(&r.Vapour, vapour[api.Vapour])
	set(&r.Added, solid[api.Feed]+solid[api.Absorb])
}

// sums returns, for each kind of steps, what all of them together choose in the
// course toward those of one kind.
func (l lane) sums(most bool, wanted api.StepKind) map[api.StepKind]int {
	found := map[api.StepKind]int{}
	for x := range l.extreme(most, func(x moment) bool { return x.Kind == wanted }) {
		found[x.Kind] += x.choice
	}
	return found
}

// Follow carries out one course, by its choices.
func Follow(m api.Melt, l []api.Step, start api.Contents, choices []api.Contents) (slices []api.Contents, end api.Contents, e api.Errno) {
	e = check.First(
		validRun(m, l),
		check.Unless(api.ErrArg, func() bool { return len(choices) == len(l) }),
	)
	if e != api.OK {
		return nil, api.Contents{}, e
	}
	for s, one := range lanes(m, l) {
		left, ok := one.follow(start[s], func(x moment) int { return choices[x.number][s] })
		if !ok {
			return nil, api.Contents{}, api.ErrCourse
		}
		end[s] = left
	}
	for i, x := range l {
		if x.Kind == api.Freeze {
			slices = append(slices, choices[i])
		}
	}
	return slices, end, api.OK
}

// Extreme returns a course in which a slice contains as much of a species as it can, or as little.
func Extreme(m api.Melt, l []api.Step, slice int, s api.Species, most bool) (start api.Contents, choices []api.Contents, e api.Errno) {
	number, ok := 0, false
	e = check.First(
		validRun(m, l),
		check.Unless(api.ErrNone, func() bool {
			number, ok = freezing(l, slice)
			return ok
		}),
		isThere(s),
	)
	if e != api.OK {
		return api.Contents{}, nil, e
	}
	choices = make([]api.Contents, len(l))
	// Of the other species any course will do, so that all of them may go the same way.
	for s, one := range lanes(m, l) {
		start[s] = one.start(most)
		for x := range one.extreme(most, func(x moment) bool { return x.number == number }) {
			choices[x.number][s] = x.choice
		}
	}
	return start, choices, api.OK
}

// freezing returns the number of the step that makes a slice. It is not ok if
// there is no such slice.
func freezing(l []api.Step, slice int) (number int, ok bool) {
	for i, x := range l {
		if x.Kind != api.Freeze {
			continue
		}
		if slice == 0 {
			return i, true
		}
		slice--
	}
	return 0, false
}
