package melt_test

import (
	"slices"
	"testing"

	"boule/api"
	"boule/melt"
)

// P1, R2, R5: whatever the integers, calls come back, and with an error all
// other results are zero values.
func TestHostileIntegers(t *testing.T) {
	for _, a := range hostile {
		for _, b := range hostile {
			for _, c := range hostile {
				for _, m := range []api.Melt{example(), {Mass: a, Content: like(b, c)}, {Mass: 1, Content: unlike(span(a, b), span(b, c), span(c, c))}} {
					hostileRun(t, m, a, b, c)
					hostileTarget(t, m, a, b, c)
				}
			}
		}
	}
}

func hostileRun(t *testing.T, m api.Melt, a, b, c int) {
	t.Helper()
	for kind := range 6 {
		l := []api.Step{{Kind: api.StepKind(kind), Mass: a, By: like(b, c)}, {Kind: api.StepKind(a), Mass: c, By: like(a, b)}, freeze(1, like(b, b))}
		for n := range len(l) + 1 {
			bad := melt.Check(m, l[:n])
			if r, e := melt.Predict(m, l[:n]); e != bad || e != api.OK && !noRun(r) {
				t.Error("Predict", m, l[:n], r, e)
			}
			choices := make([]api.Contents, n)
			for i := range choices {
				choices[i] = api.Contents{a, b, c}
			}
			if got, end, e := melt.Follow(m, l[:n], api.Contents{c, a, b}, choices); bad != api.OK && e != bad || e != api.OK && (len(got) != 0 || end != (api.Contents{})) {
				t.Error("Follow", m, l[:n], got, end, e)
			}
			if start, choices, e := melt.Extreme(m, l[:n], c, api.Species(b), a > 0); bad != api.OK && e != bad || e != api.OK && (start != (api.Contents{}) || len(choices) != 0) {
				t.Error("Extreme", m, l[:n], start, choices, e)
			}
			if g, e := melt.Judge(m, l[:n], api.Species(a), span(b, c)); bad != api.OK && e != bad || e != api.OK && len(g) != 0 {
				t.Error("Judge", m, l[:n], g, e)
			}
		}
	}
}

func hostileTarget(t *testing.T, m api.Melt, a, b, c int) {
	t.Helper()
	for _, s := range []api.Species{0, 1, 2, api.Species(a), api.Species(c)} {
		if r, e := melt.Concentration(api.Frozen(m), s); e != api.OK && r != (api.Range{}) || r.Low < 0 || r.High > api.MaxNumber {
			t.Error("Concentration", m, s, r, e)
		}
		for _, l := range [][3]api.Range{{span(a, b), span(b, c), span(a, c)}, {span(0, a), span(b, b), span(c, c)}, {span(a, a), span(0, b), span(0, c)}} {
			x, e := melt.Refill(m, l[0], l[1], l[2], s)
			if e != api.OK && x != 0 || e == api.OK && (!refilled(m, l[0], l[1], l[2], int(s), x) || m.Mass+x > api.MaxMelt) {
				t.Error("Refill", m, l, s, x, e)
			}
		}
	}
}

// R4: no argument is changed, and what is done to results and arguments
// afterwards changes nothing.
func TestMemory(t *testing.T) {
	for range 2 {
		l, start, choices := shop()
		r := predicted(t, example(), l)
		a, _, _ := melt.Follow(example(), l, start, choices)
		begin, extreme, _ := melt.Extreme(example(), l, 1, api.Oxygen, true)
		first := slices.Clone(extreme)
		g, _ := melt.Judge(example(), l, api.Carbon, span(0, 4000000))
		if same, _, other := shop(); !slices.Equal(l, same) || start != (api.Contents{10000, 10000, 10000}) || !slices.Equal(choices, other) {
			t.Error("arguments", l, start, choices)
		}
		if !slices.Equal(a, []api.Contents{{300, 350, 400}, {9608, 9513, 9466}}) || !slices.Equal(g, []api.Grade{api.Surely, api.Never}) {
			t.Error("results", a, g)
		}
		a[0][0], extreme[0][0], g[0], r.Slices[0] = -1, -1, 9, api.Frozen{}
		if _, _, other := shop(); !slices.Equal(choices, other) {
			t.Error("Follow keeps its choices", choices)
		}
		if again := predicted(t, example(), l); again.Slices[0].Content != like(300, 400) {
			t.Error("Predict", again)
		}
		if b, again, _ := melt.Extreme(example(), l, 1, api.Oxygen, true); b != begin || !slices.Equal(again, first) {
			t.Error("Extreme", b, again)
		}
	}
}

// R3: no list and an empty one.
func TestEmptyLists(t *testing.T) {
	r, e := melt.Predict(example(), []api.Step{})
	s, f := melt.Predict(example(), nil)
	if !sameRun(r, s) || e != f || e != api.OK {
		t.Error("Predict", r, s, e, f)
	}
	start := api.Contents{10000, 10000, 10000}
	for _, choices := range [][]api.Contents{nil, {}} {
		for _, l := range [][]api.Step{nil, {}} {
			if a, end, e := melt.Follow(example(), l, start, choices); len(a) != 0 || end != start || e != api.OK {
				t.Error("Follow", a, end, e)
			}
		}
	}
}

// P3.8, T1: what was there and what is added is what froze, what evaporated and
// what is left, in units and in mg.
func TestConservation(t *testing.T) {
	r := dice()
	for i := range 1000 {
		m, l := smallOrGreat(r, i)
		start, choices := anyCourse(r.Intn, m, l)
		a, end, e := melt.Follow(m, l, start, choices)
		if e != api.OK {
			t.Fatal("no course", m, l, start, choices, e)
		}
		for s := range 3 {
			left := start[s]
			for k, x := range l {
				switch x.Kind {
				case api.Feed, api.Absorb:
					left += choices[k][s]
				case api.Vapour:
					left -= choices[k][s]
				}
			}
			for _, c := range a {
				left -= c[s]
			}
			if left != end[s] {
				t.Fatal(m, l, start, choices, a, end)
			}
		}
		run := predicted(t, m, l)
		mass := run.End.Mass
		for k, n := range masses(l) {
			if run.Slices[k].Mass != n {
				t.Fatal("masses", m, l, run)
			}
			mass += n
		}
		for _, x := range l {
			if x.Kind == api.Feed {
				mass -= x.Mass
			}
		}
		if mass != m.Mass || len(a) != len(run.Slices) {
			t.Fatal("mass", m, l, run)
		}
	}
}

// result returns what Follow tells of a course, as a run without any width.
func result(m api.Melt, l []api.Step, start api.Contents, choices []api.Contents) api.Run {
	var r api.Run
	for s := range 3 {
		w := way{start: start[s], end: start[s]}
		for k, x := range l {
			w = w.further(x, choices[k][s])
		}
		if r.Slices == nil {
			r.Slices = make([]api.Frozen, len(w.slices))
		}
		for i, n := range w.slices {
			r.Slices[i].Content[s] = at(n)
		}
		r.End.Content[s], r.Added[s], r.Solid[s], r.Vapour[s] = at(w.end), at(w.added), at(w.solid), at(w.vapours)
	}
	return r
}

// P3.9, T2: the numbers of each course lie in the ranges. (That each end is
// reached is tested against all courses, and with Extreme.)
func TestCoursesLieInTheRanges(t *testing.T) {
	r := dice()
	for i := range 1000 {
		m, l := smallOrGreat(r, i)
		start, choices := anyCourse(r.Intn, m, l)
		if x, run := result(m, l, start, choices), predicted(t, m, l); !allInside(x, run) {
			t.Fatal(m, l, start, choices, run)
		}
	}
}

// P3.10: with narrower ranges no range gets wider.
func TestWhatIsKnownBetter(t *testing.T) {
	r := dice()
	narrow := func(b api.Bounds) api.Bounds {
		for s, x := range b {
			low := x.Low + r.Intn(x.High-x.Low+1)
			b[s] = span(low, low+r.Intn(x.High-low+1))
		}
		return b
	}
	for i := range 1000 {
		m, l := smallOrGreat(r, i)
		run := predicted(t, m, l)
		m.Content = narrow(m.Content)
		for k := range l {
			l[k].By = narrow(l[k].By)
		}
		if better := predicted(t, m, l); !allInside(better, run) {
			t.Fatal(m, l, "is", better, "was", run)
		}
	}
}

// P3.10: a run that is cut in two.
func TestRunCutInTwo(t *testing.T) {
	r := dice()
	for range 1000 {
		m, l := anyRun(r, 12, 50, 40)
		run := predicted(t, m, l)
		for k := range len(l) + 1 {
			first := predicted(t, m, l[:k])
			second := predicted(t, first.End, l[k:])
			if second.End != run.End || !slices.Equal(slices.Concat(first.Slices, second.Slices), run.Slices) {
				t.Fatal(m, l, k, first, second, run)
			}
		}
	}
}

// P3.11: with coefficients of at most 10000, and nothing added or evaporated.
func TestFreezing(t *testing.T) {
	r := dice()
	for i := range 1000 {
		most, content := 50, 40
		if i%10 == 0 {
			most, content = api.MaxMelt, 200000 // The products below fit an int.
		}
		m := api.Melt{Mass: 1 + r.Intn(most), Content: anyBounds(r, content)}
		var l []api.Step
		mass := m.Mass
		for mass > 0 {
			l = append(l, freeze(anyMass(r, mass), anyBounds(r, api.Whole)))
			mass -= l[len(l)-1].Mass
		}
		for slice := range l {
			for s := range 3 {
				for _, high := range []bool{false, true} {
					start, choices, e := melt.Extreme(m, l, slice, api.Species(s), high)
					a, end, f := melt.Follow(m, l, start, choices)
					if e != api.OK || f != api.OK || end != (api.Contents{}) {
						t.Fatal(m, l, start, choices, e, end, f)
					}
					wantShares(t, m, l, s, start[s], a)
				}
			}
		}
	}
}

// wantShares checks that no slice has a unit more than its share of the melt,
// and that the last one, with which all of it is frozen, has all that was left.
func wantShares(t *testing.T, m api.Melt, l []api.Step, s, content int, a []api.Contents) {
	t.Helper()
	mass := m.Mass
	for i, x := range l {
		if (a[i][s]-1)*mass >= content*x.Mass {
			t.Fatal("more than its share", m, l, s, i, a)
		}
		if (content-a[i][s]+1)*mass <= content*(mass-x.Mass) {
			t.Fatal("less is kept", m, l, s, i, a)
		}
		if i == len(l)-1 && a[i][s] != content {
			t.Fatal("not all that was left", m, l, s, a)
		}
		mass -= x.Mass
		content -= a[i][s]
	}
}
