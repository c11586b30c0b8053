package melt_test

import (
	"math"
	"slices"
	"testing"

	"boule/api"
	"boule/melt"
)

// slice is a slice that has the same range of all species.
func slice(mass, low, high int) api.Frozen { return api.Frozen{Mass: mass, Content: like(low, high)} }

// P3.2, and examples 1 and 2.
func TestPredict(t *testing.T) {
	phosphorus := unlike(span(3500, 3500), span(3000, 4000), span(0, 0))
	for _, c := range []struct {
		name string
		m    api.Melt
		l    []api.Step
		want api.Run
	}{
		{"nothing at all", api.Melt{}, nil, api.Run{}},
		{"no steps", api.Melt{Mass: 7, Content: like(3, 5)}, nil, api.Run{End: api.Melt{Mass: 7, Content: like(3, 5)}}},
		{"example 1, one slice of each species", example(), []api.Step{freeze(100, phosphorus)}, api.Run{
			Slices: []api.Frozen{{Mass: 100, Content: unlike(span(350, 350), span(300, 400), span(0, 0))}},
			End:    api.Melt{Mass: 900, Content: unlike(span(9650, 9650), span(9600, 9700), span(10000, 10000))},
			Solid:  unlike(span(350, 350), span(300, 400), span(0, 0)),
		}},
		{"example 1, two slices", example(), []api.Step{freeze(100, like(3000, 4000)), freeze(100, like(3000, 4000))}, api.Run{
			Slices: []api.Frozen{slice(100, 300, 400), slice(100, 320, 432)},
			End:    api.Melt{Mass: 800, Content: like(9173, 9377)},
			Solid:  like(623, 827), // Both slices are never least together.
		}},
		{"example 2", example(), []api.Step{vapour(like(100, 200))}, api.Run{
			End: api.Melt{Mass: 1000, Content: like(9800, 9900)}, Vapour: like(100, 200),
		}},
		{"all kinds", example(), []api.Step{vapour(like(100, 200)), feed(500, like(50, 60)), absorb(like(7, 7)), freeze(1500, like(0, 0))}, api.Run{
			Slices: []api.Frozen{slice(1500, 9857, 9967)},
			Added:  like(57, 67), Solid: like(9857, 9967), Vapour: like(100, 200),
		}},
		{"all of it freezes, whatever the coefficients", api.Melt{Mass: 5, Content: like(2, 9)}, []api.Step{freeze(5, like(0, 1))}, api.Run{
			Slices: []api.Frozen{slice(5, 2, 9)}, Solid: like(2, 9),
		}},
		{"no more than there is", example(), []api.Step{freeze(900, like(12500, 20000))}, api.Run{
			Slices: []api.Frozen{slice(900, 10000, 10000)}, End: api.Melt{Mass: 100}, Solid: like(10000, 10000),
		}},
		{"some of it may be more than there is", example(), []api.Step{freeze(900, like(0, 20000))}, api.Run{
			Slices: []api.Frozen{slice(900, 0, 10000)}, End: api.Melt{Mass: 100, Content: like(0, 10000)}, Solid: like(0, 10000),
		}},
		{"rounded outwards", api.Melt{Mass: 3, Content: like(1, 1)}, []api.Step{freeze(1, like(10000, 10000)), vapour(like(1, 1))}, api.Run{
			Slices: []api.Frozen{slice(1, 0, 1)}, End: api.Melt{Mass: 2, Content: like(0, 1)}, Solid: like(0, 1), Vapour: like(0, 1),
		}},
		{"a melt without mass", api.Melt{Content: like(10, 20)}, []api.Step{vapour(like(5000, 5000)), absorb(like(1, 2)), feed(1, like(3, 3)), freeze(1, like(0, 0))}, api.Run{
			Slices: []api.Frozen{slice(1, 9, 15)}, Added: like(4, 5), Solid: like(9, 15), Vapour: like(5, 10),
		}},
		{"all of it evaporates", example(), []api.Step{vapour(like(10000, 10000)), freeze(10, like(9, 9))}, api.Run{
			Slices: []api.Frozen{slice(10, 0, 0)}, End: api.Melt{Mass: 990}, Vapour: like(10000, 10000),
		}},
	} {
		if r, e := melt.Predict(c.m, c.l); e != api.OK || !sameRun(r, c.want) {
			t.Error(c.name, r, e)
		}
	}
}

// P3.2, P3.9, T2: each range goes from the least to the greatest number of all courses.
func TestPredictAgainstAllCourses(t *testing.T) {
	r := dice()
	for range 3000 {
		m, l := anyRun(r, 5, 9, 5)
		if got, want := predicted(t, m, l), plainPredict(m, l); !sameRun(got, want) {
			t.Fatal(m, l, "is", got, "wants", want)
		}
	}
}

// extremeWay goes to one end at every step, for numbers of any size.
func extremeWay(m api.Melt, l []api.Step, s int, most bool, wanted api.StepKind) way {
	end := func(r api.Range, most bool) int {
		if most {
			return r.High
		}
		return r.Low
	}
	n := end(m.Content[s], most)
	w := way{start: n, end: n}
	for i, x := range l {
		can := plainChoices(x, x.By[s], plainMass(m.Mass, l[:i]), w.end)
		adds := x.Kind == api.Feed || x.Kind == api.Absorb
		w = w.further(x, end(can, most == (adds || x.Kind == wanted)))
	}
	return w
}

// P3.2: numbers of any size.
func TestPredictGreatNumbers(t *testing.T) {
	r := dice()
	for range 300 {
		m, l := anyRun(r, 200, api.MaxMelt, api.MaxContent)
		got := predicted(t, m, l)
		for s := range 3 {
			end := span(extremeWay(m, l, s, false, 0).end, extremeWay(m, l, s, true, 0).end)
			solid := span(extremeWay(m, l, s, false, api.Freeze).solid, extremeWay(m, l, s, true, api.Freeze).solid)
			lost := span(extremeWay(m, l, s, false, api.Vapour).vapours, extremeWay(m, l, s, true, api.Vapour).vapours)
			if got.End.Content[s] != end || got.Solid[s] != solid || got.Vapour[s] != lost {
				t.Fatal(m, l, got, end, solid, lost)
			}
		}
	}
}

// P3.2, R5: as much as a melt can ever contain.
func TestPredictTheMost(t *testing.T) {
	const most = api.MaxContent
	m := api.Melt{Mass: api.MaxMelt, Content: like(most, most)}
	l := append(slices.Repeat([]api.Step{absorb(like(0, most))}, 199), freeze(api.MaxMelt-1, like(19999, 20000)))
	r := predicted(t, m, l)
	want := api.Run{
		Slices: []api.Frozen{slice(api.MaxMelt-1, most, 200*most)}, End: api.Melt{Mass: 1},
		Added: like(0, 199*most), Solid: like(most, 200*most),
	}
	if !sameRun(r, want) {
		t.Error(r)
	}
}

// shop is a run with a step of each kind; the masses and choices of a course of it.
func shop() (l []api.Step, start api.Contents, choices []api.Contents) {
	l = []api.Step{
		freeze(100, like(3000, 4000)),
		feed(100, like(5, 9)),
		vapour(like(100, 150)),
		absorb(unlike(span(0, 0), span(1, 3), span(0, 2))),
		freeze(1000, like(1, 2)),
	}
	start = api.Contents{10000, 10000, 10000}
	// Before the vapour there are 9705, 9657 and 9609 units, of which at least
	// 97.05, 96.57 and 96.09, and at most 145.575, 144.855 and 144.135 evaporate.
	choices = []api.Contents{{300, 350, 400}, {5, 7, 9}, {97, 145, 145}, {0, 1, 2}, {9608, 9513, 9466}}
	return l, start, choices
}

// P3.3.
func TestFollow(t *testing.T) {
	l, start, choices := shop()
	a, end, e := melt.Follow(example(), l, start, choices)
	if e != api.OK || !slices.Equal(a, []api.Contents{choices[0], choices[4]}) || end != (api.Contents{}) {
		t.Error(a, end, e)
	}
	a, end, e = melt.Follow(example(), l[:4], start, choices[:4])
	if e != api.OK || !slices.Equal(a, choices[:1]) || end != choices[4] {
		t.Error(a, end, e)
	}
	a, end, e = melt.Follow(api.Melt{Content: like(2, 4)}, nil, api.Contents{2, 3, 4}, nil)
	if e != api.OK || len(a) != 0 || end != (api.Contents{2, 3, 4}) {
		t.Error("no steps", a, end, e)
	}
}

// wantNoCourse checks that Follow returns an error and nothing else.
func wantNoCourse(t *testing.T, m api.Melt, l []api.Step, start api.Contents, choices []api.Contents, want api.Errno) {
	t.Helper()
	if a, end, e := melt.Follow(m, l, start, choices); e != want || len(a) != 0 || end != (api.Contents{}) {
		t.Error(m, l, start, choices, a, end, e)
	}
}

// P3.3: what is no course.
func TestNoCourse(t *testing.T) {
	l, start, choices := shop()
	for i := range choices {
		for s := range 3 {
			for _, n := range []int{math.MinInt, -1, 20000, math.MaxInt} {
				other := slices.Clone(choices)
				other[i][s] = n
				wantNoCourse(t, example(), l, start, other, api.ErrCourse)
			}
		}
	}
	for s := range 3 {
		for _, n := range []int{math.MinInt, 9999, 10001, math.MaxInt} {
			other := start
			other[s] = n
			wantNoCourse(t, example(), l, other, choices, api.ErrCourse)
			wantNoCourse(t, example(), nil, other, nil, api.ErrCourse)
		}
	}
	wantNoCourse(t, example(), l, start, choices[:4], api.ErrArg)
	wantNoCourse(t, example(), l, start, append(choices, api.Contents{}), api.ErrArg)
	wantNoCourse(t, example(), l, start, nil, api.ErrArg)
	wantNoCourse(t, example(), nil, start, choices[:1], api.ErrArg)
	wantNoCourse(t, example(), l, api.Contents{}, choices[:4], api.ErrArg)
}

// P3.3: a choice at an end of what a course can make, and just past it.
func TestEndsOfChoices(t *testing.T) {
	r := dice()
	for range 2000 {
		m, l := anyRun(r, 6, 50, 40)
		start, choices := anyCourse(r.Intn, m, l)
		for i, x := range l {
			for s := range 3 {
				can := plainChoices(x, x.By[s], plainMass(m.Mass, l[:i]), contentBefore(l, start[s], choices, i, s))
				part := slices.Clone(choices[:i+1])
				for n, want := range map[int]api.Errno{can.Low - 1: api.ErrCourse, can.Low: api.OK, can.High: api.OK, can.High + 1: api.ErrCourse} {
					part[i][s] = n
					if _, _, e := melt.Follow(m, l[:i+1], start, part); e != want {
						t.Fatal(m, l[:i+1], start, part, e)
					}
				}
			}
		}
	}
}

// anyCourse returns a course, whose choices are made by a function like rand.Intn.
func anyCourse(pick func(int) int, m api.Melt, l []api.Step) (start api.Contents, choices []api.Contents) {
	within := func(r api.Range) int { return r.Low + pick(r.High-r.Low+1) }
	for s := range start {
		start[s] = within(m.Content[s])
	}
	for i, x := range l {
		var c api.Contents
		for s := range c {
			c[s] = within(plainChoices(x, x.By[s], plainMass(m.Mass, l[:i]), contentBefore(l, start[s], choices, i, s)))
		}
		choices = append(choices, c)
	}
	return start, choices
}

// contentBefore returns what a melt contains of a species before the step i.
func contentBefore(l []api.Step, start int, choices []api.Contents, i, s int) int {
	w := way{end: start}
	for k, x := range l[:i] {
		w = w.further(x, choices[k][s])
	}
	return w.end
}

// wantExtreme checks that Extreme returns a course, and that it goes to an end of the range of Predict.
func wantExtreme(t *testing.T, m api.Melt, l []api.Step, slice int, s api.Species, most bool) {
	t.Helper()
	r := predicted(t, m, l)
	start, choices, e := melt.Extreme(m, l, slice, s, most)
	if e != api.OK {
		t.Fatal("Extreme", m, l, slice, s, most, e)
	}
	a, _, e := melt.Follow(m, l, start, choices)
	if e != api.OK {
		t.Fatal("no course", m, l, start, choices, e)
	}
	want := r.Slices[slice].Content[s].Low
	if most {
		want = r.Slices[slice].Content[s].High
	}
	if a[slice][s] != want {
		t.Error(m, l, slice, s, most, "is", a[slice][s], "wants", want)
	}
}

func wantAllExtremes(t *testing.T, m api.Melt, l []api.Step) {
	t.Helper()
	for i := range masses(l) {
		for s := range 3 {
			wantExtreme(t, m, l, i, api.Species(s), false)
			wantExtreme(t, m, l, i, api.Species(s), true)
		}
	}
}

// P3.4, P3.9: whatever Predict tells of slices is reached by a course.
func TestExtreme(t *testing.T) {
	l, _, _ := shop()
	wantAllExtremes(t, example(), l)
	r := dice()
	for range 1000 {
		m, l := anyRun(r, 6, 50, 40)
		wantAllExtremes(t, m, l)
	}
	for range 20 {
		m, l := anyRun(r, 20, api.MaxMelt, api.MaxContent)
		wantAllExtremes(t, m, l)
	}
}

// P3.4: slices and species that are not there.
func TestNoExtreme(t *testing.T) {
	l, _, _ := shop()
	for _, c := range []struct {
		l     []api.Step
		slice int
		s     api.Species
		want  api.Errno
	}{
		{l, 0, 0, api.OK}, {l, 1, 2, api.OK},
		{l, 2, 0, api.ErrNone}, {l, 4, 0, api.ErrNone}, {l, -1, 0, api.ErrNone},
		{l, math.MinInt, 0, api.ErrNone}, {l, math.MaxInt, 0, api.ErrNone},
		{l, 0, 3, api.ErrNone}, {l, 0, -1, api.ErrNone}, {l, 0, math.MaxInt, api.ErrNone}, {l, 0, math.MinInt, api.ErrNone},
		{l[1:4], 0, 0, api.ErrNone}, {nil, 0, 0, api.ErrNone}, {nil, 0, 3, api.ErrNone},
	} {
		m := example()
		start, choices, e := melt.Extreme(m, c.l, c.slice, c.s, true)
		if e != c.want || e != api.OK && (start != (api.Contents{}) || len(choices) != 0) {
			t.Error(c.slice, c.s, start, choices, e)
		}
	}
}
