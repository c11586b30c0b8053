package melt_test

import (
	"math"
	"math/big"
	"math/rand"
	"slices"
	"testing"

	"boule/api"
	"boule/melt"
)

// hostile are integers at and around all limits.
var hostile = []int{
	math.MinInt, -api.MaxNumber, -1, 0, 1, 2, 3, api.Whole, api.Whole + 1, api.MaxShare, api.MaxShare + 1,
	api.MaxMelt, api.MaxMelt + 1, api.MaxContent, api.MaxContent + 1, math.MaxInt,
}

func span(low, high int) api.Range { return api.Range{Low: low, High: high} }

// like returns the same range for all species.
func like(low, high int) api.Bounds {
	return api.Bounds{span(low, high), span(low, high), span(low, high)}
}

// unlike returns ranges for the species one by one.
func unlike(dopant, oxygen, carbon api.Range) api.Bounds { return api.Bounds{dopant, oxygen, carbon} }

func freeze(mass int, by api.Bounds) api.Step {
	return api.Step{Kind: api.Freeze, Mass: mass, By: by}
}

func feed(mass int, by api.Bounds) api.Step { return api.Step{Kind: api.Feed, Mass: mass, By: by} }

func absorb(by api.Bounds) api.Step { return api.Step{Kind: api.Absorb, By: by} }

func vapour(by api.Bounds) api.Step { return api.Step{Kind: api.Vapour, By: by} }

// example is the melt of the document's examples.
func example() api.Melt { return api.Melt{Mass: 1000, Content: like(10000, 10000)} }

// dice returns the same numbers in every run.
func dice() *rand.Rand { return rand.New(rand.NewSource(1)) }

// anyRange returns a range from 0 to most, often a single number.
func anyRange(r *rand.Rand, most int) api.Range {
	low := r.Intn(most + 1)
	if r.Intn(3) == 0 {
		return span(low, low)
	}
	return span(low, low+r.Intn(most+1-low))
}

func anyBounds(r *rand.Rand, most int) api.Bounds {
	return unlike(anyRange(r, most), anyRange(r, most), anyRange(r, most))
}

// anyMass returns a mass from 1 to most, often most.
func anyMass(r *rand.Rand, most int) int {
	if r.Intn(3) == 0 {
		return most
	}
	return 1 + r.Intn(most)
}

// anyRun returns a valid run of so many steps at most, with at most this mass
// in a melt and so many units at the start or added by a step.
func anyRun(r *rand.Rand, steps, most, content int) (api.Melt, []api.Step) {
	m := api.Melt{Mass: r.Intn(most + 1), Content: anyBounds(r, content)}
	var l []api.Step
	mass := m.Mass
	for range r.Intn(steps + 1) {
		switch kind := r.Intn(6); {
		case kind == 0:
			l = append(l, absorb(anyBounds(r, content)))
		case kind == 1:
			l = append(l, vapour(anyBounds(r, api.Whole)))
		case kind == 2 && mass < most:
			l = append(l, feed(anyMass(r, most-mass), anyBounds(r, content)))
			mass += l[len(l)-1].Mass
		case mass > 0:
			l = append(l, freeze(anyMass(r, mass), anyBounds(r, []int{api.MaxShare, api.Whole, 3000}[r.Intn(3)])))
			mass -= l[len(l)-1].Mass
		}
	}
	return m, l
}

// smallOrGreat returns a run with small numbers, and every tenth time with great ones.
func smallOrGreat(r *rand.Rand, i int) (api.Melt, []api.Step) {
	if i%10 == 0 {
		return anyRun(r, 12, api.MaxMelt, api.MaxContent)
	}
	return anyRun(r, 12, 50, 40)
}

// quotient returns a * b * c / (d * e), rounded down or up.
func quotient(a, b, c, d, e int, up bool) int {
	over := new(big.Int).Mul(big.NewInt(int64(d)), big.NewInt(int64(e)))
	x := new(big.Int).Mul(big.NewInt(int64(a)), big.NewInt(int64(b)))
	x.Mul(x, big.NewInt(int64(c)))
	if up {
		x.Add(x, over).Sub(x, big.NewInt(1))
	}
	return int(x.Div(x, over).Int64())
}

// plainChoices returns what can be chosen at a step, as the chapter says it.
func plainChoices(x api.Step, by api.Range, mass, content int) api.Range {
	switch {
	case x.Kind == api.Freeze && x.Mass == mass:
		return span(content, content)
	case x.Kind == api.Freeze:
		low := quotient(by.Low, content, x.Mass, 10000, mass, false)
		high := quotient(by.High, content, x.Mass, 10000, mass, true)
		return span(min(content, low), min(content, high))
	case x.Kind == api.Vapour:
		return span(quotient(by.Low, content, 1, 10000, 1, false), quotient(by.High, content, 1, 10000, 1, true))
	}
	return by
}

// plainMass returns the mass of a melt after some steps.
func plainMass(mass int, l []api.Step) int {
	for _, x := range l {
		switch x.Kind {
		case api.Freeze:
			mass -= x.Mass
		case api.Feed:
			mass += x.Mass
		}
	}
	return mass
}

// way is a course for one species, and what comes of it.
type way struct {
	start                      int
	choices, slices            []int
	end, added, solid, vapours int
}

// further returns the way with one more step.
func (w way) further(x api.Step, choice int) way {
	w.choices = append(slices.Clone(w.choices), choice)
	switch x.Kind {
	case api.Freeze:
		w.slices = append(slices.Clone(w.slices), choice)
		w.solid += choice
		w.end -= choice
	case api.Vapour:
		w.vapours += choice
		w.end -= choice
	default:
		w.added += choice
		w.end += choice
	}
	return w
}

// ways returns all courses for one species.
func ways(m api.Melt, l []api.Step, s int) []way {
	var all []way
	for n := m.Content[s].Low; n <= m.Content[s].High; n++ {
		all = append(all, way{start: n, end: n})
	}
	for i, x := range l {
		var next []way
		for _, w := range all {
			can := plainChoices(x, x.By[s], plainMass(m.Mass, l[:i]), w.end)
			for c := can.Low; c <= can.High; c++ {
				next = append(next, w.further(x, c))
			}
		}
		all = next
	}
	return all
}

// hull returns the range from the least to the greatest number of some ways.
func hull(all []way, number func(way) int) api.Range {
	r := span(math.MaxInt, math.MinInt)
	for _, w := range all {
		r = span(min(r.Low, number(w)), max(r.High, number(w)))
	}
	return r
}

// masses returns the masses of the slices of a run.
func masses(l []api.Step) []int {
	var all []int
	for _, x := range l {
		if x.Kind == api.Freeze {
			all = append(all, x.Mass)
		}
	}
	return all
}

// plainPredict goes through all courses.
func plainPredict(m api.Melt, l []api.Step) api.Run {
	r := api.Run{End: api.Melt{Mass: plainMass(m.Mass, l)}}
	for _, mass := range masses(l) {
		r.Slices = append(r.Slices, api.Frozen{Mass: mass})
	}
	for s := range 3 {
		all := ways(m, l, s)
		for i := range r.Slices {
			r.Slices[i].Content[s] = hull(all, func(w way) int { return w.slices[i] })
		}
		r.End.Content[s] = hull(all, func(w way) int { return w.end })
		r.Added[s] = hull(all, func(w way) int { return w.added })
		r.Solid[s] = hull(all, func(w way) int { return w.solid })
		r.Vapour[s] = hull(all, func(w way) int { return w.vapours })
	}
	return r
}

func sameRun(a, b api.Run) bool {
	return slices.Equal(a.Slices, b.Slices) && a.End == b.End && a.Added == b.Added && a.Solid == b.Solid && a.Vapour == b.Vapour
}

func noRun(r api.Run) bool { return sameRun(r, api.Run{}) }

// predicted returns what Predict returns for a run that is valid.
func predicted(t *testing.T, m api.Melt, l []api.Step) api.Run {
	t.Helper()
	r, e := melt.Predict(m, l)
	if e != api.OK {
		t.Fatal("Predict", m, l, e)
	}
	return r
}

// inside reports whether a range lies in another one.
func inside(a, b api.Range) bool { return b.Low <= a.Low && a.High <= b.High }

// allInside reports whether all ranges of a run lie in those of another one.
func allInside(a, b api.Run) bool {
	for s := range 3 {
		for i := range a.Slices {
			if !inside(a.Slices[i].Content[s], b.Slices[i].Content[s]) {
				return false
			}
		}
		if !inside(a.End.Content[s], b.End.Content[s]) || !inside(a.Added[s], b.Added[s]) ||
			!inside(a.Solid[s], b.Solid[s]) || !inside(a.Vapour[s], b.Vapour[s]) {
			return false
		}
	}
	return true
}
