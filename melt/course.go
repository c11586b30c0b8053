package melt

import (
	"iter"

	"boule/api"
	"boule/units"
)

// lane is a melt, the steps of its run, and the species that is followed: what
// becomes of it depends on no other one.
type lane struct {
	api.Melt
	steps   []api.Step
	species api.Species
}

// moment is a step of a course.
type moment struct {
	api.Step
	number int       // of the step
	can    api.Range // what can be chosen
	choice int       // what is chosen
	left   int       // what the melt contains after it
}

// choice chooses a number of units at a step of which it is known what can be chosen.
type choice func(moment) int

// end returns an end of a range: the greatest number, or the least one.
func end(r api.Range, most bool) int {
	if most {
		return r.High
	}
	return r.Low
}

// start returns what the melt contains at the start, at the most or at the least.
func (l lane) start(most bool) int { return end(l.Content[l.species], most) }

// course yields the steps of a course with such contents at the start and such choices.
func (l lane) course(start int, choose choice) iter.Seq[moment] {
	return func(yield func(moment) bool) {
		mass, left := l.Mass, start
		for i, step := range l.steps {
			x := moment{Step: step, number: i, can: l.choices(step, mass, left)}
			x.choice = choose(x)
			mass = after(mass, step)
			left += kinds[step.Kind].sign * x.choice
			x.left = left
			if !yield(x) {
				return
			}
		}
	}
}

// choices returns what can be chosen at a step with a melt of such a mass and content.
func (l lane) choices(x api.Step, mass, content int) api.Range {
	by := x.By[l.species]
	switch {
	case x.Kind == api.Freeze && x.Mass == mass:
		return api.Range{Low: content, High: content}
	case x.Kind == api.Freeze:
		return portion(content, api.Range{Low: by.Low * x.Mass, High: by.High * x.Mass}, api.Whole*mass)
	case x.Kind == api.Vapour:
		return portion(content, by, api.Whole)
	}
	return by
}

// portion returns a content times a range divided by a whole, but no more than
// the content. All of them, and what comes out, are numbers of package units:
// with the limits of this chapter no melt has more than 201 * MaxContent units.
func portion(content int, by api.Range, whole int) api.Range {
	r, _ := units.Times(api.Range{Low: content, High: content}, by, whole)
	return api.Range{Low: min(content, r.Low), High: min(content, r.High)}
}

// toward returns the choices of the course in which the steps that are wanted
// choose the most in all, or the least; if none is wanted, in which the most or
// the least is left in the melt.
//
// Each step can take an end of what it can choose: with a unit more in the melt,
// what is wanted behind the step is at most a unit more, and never less, so that
// it does not make good what the step gave up.
func toward(most bool, wanted func(moment) bool) choice {
	return func(x moment) int {
		gains := kinds[x.Kind].sign > 0
		return end(x.can, most == (gains || wanted(x)))
	}
}

// extreme yields the course toward what is wanted.
func (l lane) extreme(most bool, wanted func(moment) bool) iter.Seq[moment] {
	return l.course(l.start(most), toward(most, wanted))
}

// nothing is wanted of any step.
func nothing(moment) bool { return false }

// follow returns what the melt contains at the end of a course. It is not ok
// if there is no such course.
func (l lane) follow(start int, choose choice) (left int, ok bool) {
	if !contains(l.Content[l.species], start) {
		return 0, false
	}
	left = start
	for x := range l.course(start, choose) {
		if !contains(x.can, x.choice) {
			return 0, false
		}
		left = x.left
	}
	return left, true
}
