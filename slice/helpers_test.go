package slice_test

import (
	"math"
	"math/rand"
	"slices"
	"testing"

	"boule/api"
	"boule/slice"
)

// hostile are integers at and around all limits.
var hostile = []int{
	math.MinInt, math.MinInt + 1, -api.MaxNumber, -2, -1, 0, 1, 2, 100, 900, 999, 1000, 2000, 2001, 3000, 9999, 10000,
	api.MaxForce, api.MaxForce + 1, api.MaxPitch - 1, api.MaxPitch, api.MaxPitch + 1, api.MaxAlong, api.MaxAlong + 1,
	api.MaxForce * api.MaxForce, api.MaxForce*api.MaxForce + 1, api.MaxNumber, api.MaxNumber + 1, math.MaxInt,
}

// badAmounts are no ranges from 0 to most.
func badAmounts(most int) []api.Range {
	return []api.Range{
		span(-1, 5), span(-5, -5), span(6, 5), span(5, most+1), span(most+1, most+1),
		span(math.MinInt, 5), span(5, math.MaxInt), span(math.MinInt, math.MaxInt), span(math.MaxInt, math.MinInt),
	}
}

// badLengths are none of a block.
var badLengths = []int{0, -1, math.MinInt, api.MaxAlong + 1, math.MaxInt}

func span(low, high int) api.Range { return api.Range{Low: low, High: high} }

func at(n int) api.Range { return span(n, n) }

// wire and web are those of the document's examples.
func wire() api.Wire {
	return api.Wire{Diameter: span(120, 122), Wear: span(1, 2), Least: 110}
}

func web() api.Web {
	return api.Web{Pitch: 900, Grooves: 4, Start: 100, Slurry: span(40, 50)}
}

// dice returns the same numbers in every run.
func dice() *rand.Rand { return rand.New(rand.NewSource(1)) }

// anyRange returns a range from least to most, often a single number.
func anyRange(r *rand.Rand, least, most int) api.Range {
	low := least + r.Intn(most-least+1)
	if r.Intn(3) == 0 {
		return at(low)
	}
	return span(low, low+r.Intn(most-low+1))
}

// narrowed returns a part of a range.
func narrowed(r *rand.Rand, x api.Range) api.Range { return anyRange(r, x.Low, x.High) }

// smallSaw returns a saw and a block of which all courses can be looked at: at
// most three grooves are used.
func smallSaw(r *rand.Rand) (api.Wire, api.Web, int) {
	w := api.Wire{Diameter: anyRange(r, 1, 5), Wear: span(0, r.Intn(2)), Least: r.Intn(7)}
	w.Diameter.High = min(w.Diameter.High, w.Diameter.Low+2)
	w.Wear.Low = r.Intn(w.Wear.High + 1)
	if r.Intn(3) == 0 { // Then the wire may be worn away.
		w.Wear = span(1, 2+r.Intn(2))
	}
	b := api.Web{Grooves: 1 + r.Intn(3), Start: r.Intn(8), Slurry: anyRange(r, 0, 2)}
	b.Pitch = w.Diameter.High + b.Slurry.High + 1 + r.Intn(4)
	return w, b, 1 + r.Intn(35)
}

// greatSaw returns a saw of any size, and a block.
func greatSaw(r *rand.Rand) (api.Wire, api.Web, int) {
	w := api.Wire{Diameter: anyRange(r, 1, api.MaxPitch/2), Wear: anyRange(r, 0, []int{3, 1000, api.MaxPitch}[r.Intn(3)])}
	w.Least = r.Intn(w.Diameter.High + 2)
	b := api.Web{Grooves: 1 + r.Intn(200), Start: r.Intn(api.MaxPitch), Slurry: anyRange(r, 0, api.MaxPitch/3)}
	thick := w.Diameter.High + b.Slurry.High
	b.Pitch = thick + 1 + r.Intn(api.MaxPitch-thick)
	return w, b, 1 + r.Intn(api.MaxAlong)
}

// anySaw returns a saw of any size, and a block.
func anySaw(r *rand.Rand) (api.Wire, api.Web, int) {
	if r.Intn(2) == 0 {
		return smallSaw(r)
	}
	return greatSaw(r)
}

// plainUsed counts one place after another.
func plainUsed(b api.Web, length int) int {
	n := 0
	for n < b.Grooves && b.Start+n*b.Pitch < length {
		n++
	}
	return n
}

// pick returns a number of a range, often an end.
func pick(r *rand.Rand, x api.Range) int {
	switch r.Intn(4) {
	case 0:
		return x.Low
	case 1:
		return x.High
	}
	return x.Low + r.Intn(x.High-x.Low+1)
}

// anyCourse returns a course of a saw.
func anyCourse(r *rand.Rand, w api.Wire, b api.Web, length int) api.Cutting {
	c := api.Cutting{Diameter: pick(r, w.Diameter)}
	for range plainUsed(b, length) {
		c.Wear, c.Slurry = append(c.Wear, pick(r, w.Wear)), append(c.Slurry, pick(r, b.Slurry))
	}
	return c
}

// plainWires returns the diameters in all used grooves, and behind the last one.
func plainWires(c api.Cutting) []int {
	l := []int{c.Diameter}
	diameter := c.Diameter
	for _, n := range c.Wear {
		diameter -= n
		l = append(l, max(0, diameter))
	}
	return l
}

// plainFollow looks at one nm of a block after another.
func plainFollow(b api.Web, length int, c api.Cutting) api.Parts {
	used, wires := plainUsed(b, length), plainWires(c)
	p := api.Parts{Kerfs: make([]int, used), Slices: make([]int, max(0, used-1))}
	for nm := range length {
		groove := used - 1
		for groove >= 0 && nm < b.Start+groove*b.Pitch {
			groove--
		}
		switch {
		case groove < 0:
			p.Top++
		case nm < b.Start+groove*b.Pitch+wires[groove]+c.Slurry[groove]:
			p.Kerfs[groove]++
		case groove == used-1:
			p.Bottom++
		default:
			p.Slices[groove]++
		}
	}
	return p
}

// courses calls look with all courses of a saw. What it is called with holds
// until the next call.
func courses(w api.Wire, b api.Web, length int, look func(api.Cutting)) {
	used := plainUsed(b, length)
	c := api.Cutting{Wear: make([]int, used), Slurry: make([]int, used)}
	var from func(groove int)
	from = func(groove int) {
		if groove == used {
			look(c)
			return
		}
		for c.Wear[groove] = w.Wear.Low; c.Wear[groove] <= w.Wear.High; c.Wear[groove]++ {
			for c.Slurry[groove] = b.Slurry.Low; c.Slurry[groove] <= b.Slurry.High; c.Slurry[groove]++ {
				from(groove + 1)
			}
		}
	}
	for c.Diameter = w.Diameter.Low; c.Diameter <= w.Diameter.High; c.Diameter++ {
		from(0)
	}
}

func sum(l []int) int {
	total := 0
	for _, n := range l {
		total += n
	}
	return total
}

// seen are the numbers that were seen so far, and how many they were.
type seen struct {
	api.Range
	n int
}

func (s *seen) add(n int) {
	if s.n == 0 {
		s.Range = at(n)
	}
	s.Range = span(min(s.Low, n), max(s.High, n))
	s.n++
}

// share returns the grade of something that is so in some of all courses.
func share(some, all int) api.Grade {
	switch some {
	case all:
		return api.Surely
	case 0:
		return api.Never
	}
	return api.Possibly
}

// plainPredict goes through all courses. It also returns the grades of the
// slices for a target.
func plainPredict(w api.Wire, b api.Web, length int, target api.Range) (api.Sliced, []api.Grade) {
	var kerf, ends, left seen
	thick := make([]seen, max(0, plainUsed(b, length)-1))
	hits, broken := make([]int, len(thick)), 0
	courses(w, b, length, func(c api.Cutting) {
		p, wires := plainFollow(b, length, c), plainWires(c)
		kerf.add(sum(p.Kerfs))
		ends.add(p.Top + p.Bottom)
		left.add(wires[len(c.Wear)])
		for i, n := range p.Slices {
			thick[i].add(n)
			if target.Low <= n && n <= target.High {
				hits[i]++
			}
		}
		if slices.ContainsFunc(wires[:len(c.Wear)], func(n int) bool { return n < w.Least }) {
			broken++
		}
	})
	x := api.Sliced{Kerf: kerf.Range, Ends: ends.Range, Wire: left.Range, Breaks: share(broken, left.n)}
	var grades []api.Grade
	for i, y := range thick {
		x.Slices = append(x.Slices, y.Range)
		grades = append(grades, share(hits[i], left.n))
	}
	return x, grades
}

func sameSliced(a, b api.Sliced) bool {
	return slices.Equal(a.Slices, b.Slices) && a.Kerf == b.Kerf && a.Ends == b.Ends && a.Wire == b.Wire && a.Breaks == b.Breaks
}

func sameParts(a, b api.Parts) bool {
	return slices.Equal(a.Slices, b.Slices) && slices.Equal(a.Kerfs, b.Kerfs) && a.Top == b.Top && a.Bottom == b.Bottom
}

// predicted returns what Predict returns for a saw that is valid.
func predicted(t *testing.T, w api.Wire, b api.Web, length int) api.Sliced {
	t.Helper()
	x, e := slice.Predict(w, b, length)
	if e != api.OK {
		t.Fatal("Predict", w, b, length, e)
	}
	return x
}

// followed returns what Follow returns for a course that there is.
func followed(t *testing.T, w api.Wire, b api.Web, length int, c api.Cutting) (api.Parts, int) {
	t.Helper()
	p, n, e := slice.Follow(w, b, length, c)
	if e != api.OK {
		t.Fatal("Follow", w, b, length, c, e)
	}
	return p, n
}

// judged returns what Judge returns for a saw and a target that are valid.
func judged(t *testing.T, w api.Wire, b api.Web, length int, target api.Range) []api.Grade {
	t.Helper()
	g, e := slice.Judge(w, b, length, target)
	if e != api.OK {
		t.Fatal("Judge", w, b, length, target, e)
	}
	return g
}

// runs returns what Runs returns for a saw that is valid.
func runs(t *testing.T, w api.Wire, b api.Web, length int) api.Range {
	t.Helper()
	sure, possible, e := slice.Runs(w, b, length)
	if e != api.OK {
		t.Fatal("Runs", w, b, length, e)
	}
	return span(sure, possible)
}

// inside reports whether a range lies in another one.
func inside(a, b api.Range) bool { return b.Low <= a.Low && a.High <= b.High }
