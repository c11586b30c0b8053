package melt_test

import (
	"slices"
	"testing"

	"boule/api"
	"boule/melt"
)

// wantError calls all functions with a melt and steps, and checks that they
// return this error, whatever the other arguments are, and nothing else.
func wantError(t *testing.T, name string, m api.Melt, l []api.Step, want api.Errno) {
	t.Helper()
	if e := melt.Check(m, l); e != want {
		t.Error(name, "Check", e)
	}
	if r, e := melt.Predict(m, l); e != want || !noRun(r) {
		t.Error(name, "Predict", r, e)
	}
	for _, choices := range [][]api.Contents{make([]api.Contents, len(l)), make([]api.Contents, len(l)+1)} {
		if a, end, e := melt.Follow(m, l, api.Contents{-1}, choices); e != want || len(a) != 0 || end != (api.Contents{}) {
			t.Error(name, "Follow", a, end, e)
		}
	}
	for _, s := range []api.Species{api.Dopant, 3} {
		if start, choices, e := melt.Extreme(m, l, -1, s, true); e != want || start != (api.Contents{}) || len(choices) != 0 {
			t.Error(name, "Extreme", s, start, choices, e)
		}
		if g, e := melt.Judge(m, l, s, span(0, -1)); e != want || len(g) != 0 {
			t.Error(name, "Judge", s, g, e)
		}
	}
}

// P3.1: limits that are just met.
func TestValidRuns(t *testing.T) {
	greatest := api.Melt{Mass: api.MaxMelt, Content: like(api.MaxContent, api.MaxContent)}
	for _, c := range []struct {
		name string
		m    api.Melt
		l    []api.Step
	}{
		{"nothing at all", api.Melt{}, nil},
		{"a melt without steps", example(), nil},
		{"the greatest melt", greatest, nil},
		{"contents without mass", api.Melt{Content: like(0, api.MaxContent)}, []api.Step{absorb(like(1, 1)), vapour(like(1, 1))}},
		{"the least slice", example(), []api.Step{freeze(1, like(0, 0))}},
		{"all of it", example(), []api.Step{freeze(1000, like(0, 20000))}},
		{"all of it in parts", example(), []api.Step{freeze(600, like(0, 0)), freeze(400, like(20000, 20000))}},
		{"all of the greatest melt", greatest, []api.Step{freeze(1000000000, like(0, 0))}},
		{"the least feed", example(), []api.Step{feed(1, like(0, 0))}},
		{"as much feed as there is room for", example(), []api.Step{feed(999999000, like(0, 1000000000000))}},
		{"a melt of nothing is filled", api.Melt{}, []api.Step{feed(1000000000, like(0, 0))}},
		{"what froze leaves room", greatest, []api.Step{freeze(5, like(0, 0)), feed(5, like(0, 0))}},
		{"what was fed can freeze", api.Melt{}, []api.Step{feed(5, like(0, 0)), freeze(5, like(0, 0))}},
		{"absorbs the most", greatest, []api.Step{absorb(like(1000000000000, 1000000000000))}},
		{"evaporates wholly", example(), []api.Step{vapour(like(10000, 10000))}},
		{"most steps", example(), slices.Repeat([]api.Step{freeze(5, like(3, 4))}, 200)},
	} {
		if e := melt.Check(c.m, c.l); e != api.OK {
			t.Error(c.name, e)
		}
		if _, e := melt.Predict(c.m, c.l); e != api.OK {
			t.Error(c.name, "Predict", e)
		}
	}
}

// P3.1: melts and steps that are just not valid any more.
func TestInvalidMeltsAndSteps(t *testing.T) {
	for _, m := range []api.Melt{
		{Mass: -1},
		{Mass: 1000000001},
		{Mass: 1, Content: unlike(span(-1, 0), span(0, 0), span(0, 0))},
		{Mass: 1, Content: unlike(span(0, 0), span(2, 1), span(0, 0))},
		{Mass: 1, Content: unlike(span(0, 0), span(0, 0), span(0, 1000000000001))},
	} {
		wantError(t, "a melt", m, nil, api.ErrArg)
	}
	for _, x := range []api.Step{
		{},
		{Kind: 0, Mass: 1},
		{Kind: 5},
		{Kind: 5, Mass: 1},
		{Kind: 255},
		freeze(0, like(1, 1)),
		freeze(-1, like(1, 1)),
		freeze(1000000001, like(1, 1)),
		freeze(1, like(-1, 1)),
		freeze(1, unlike(span(1, 1), span(1, 1), span(2, 1))),
		freeze(1, unlike(span(0, 20001), span(1, 1), span(1, 1))),
		feed(0, like(1, 1)),
		feed(-1, like(1, 1)),
		feed(1000000001, like(1, 1)),
		feed(1, unlike(span(1, 1), span(-1, 1), span(1, 1))),
		feed(1, unlike(span(1, 1), span(2, 1), span(1, 1))),
		feed(1, unlike(span(1, 1), span(1, 1000000000001), span(1, 1))),
		{Kind: api.Absorb, Mass: 1},
		{Kind: api.Absorb, Mass: -1},
		absorb(unlike(span(1, 1), span(1, 1), span(-1, 1))),
		absorb(unlike(span(1, 0), span(1, 1), span(1, 1))),
		absorb(unlike(span(1, 1), span(1, 1), span(1, 1000000000001))),
		{Kind: api.Vapour, Mass: 1},
		{Kind: api.Vapour, Mass: -1},
		vapour(unlike(span(-1, 1), span(1, 1), span(1, 1))),
		vapour(unlike(span(1, 1), span(1, 1), span(1, 0))),
		vapour(unlike(span(1, 1), span(0, 10001), span(1, 1))),
	} {
		wantError(t, "a step", example(), []api.Step{x}, api.ErrArg)
		wantError(t, "the second step", example(), []api.Step{freeze(5, like(1, 1)), x}, api.ErrArg)
	}
}

// P3.1: what does not go with the melt as it is by then.
func TestMassesOfRuns(t *testing.T) {
	for _, c := range []struct {
		name string
		m    api.Melt
		l    []api.Step
		want api.Errno
	}{
		{"more than all", example(), []api.Step{freeze(1001, like(1, 1))}, api.ErrDry},
		{"more than is left", example(), []api.Step{freeze(600, like(1, 1)), freeze(401, like(1, 1))}, api.ErrDry},
		{"nothing can freeze", api.Melt{Content: like(5, 5)}, []api.Step{freeze(1, like(1, 1))}, api.ErrDry},
		{"it is fed too late", api.Melt{}, []api.Step{absorb(like(1, 1)), freeze(1, like(1, 1)), feed(1, like(1, 1))}, api.ErrDry},
		{"no room", example(), []api.Step{feed(999999001, like(1, 1))}, api.ErrFull},
		{"no room any more", example(), []api.Step{feed(999999000, like(1, 1)), feed(1, like(1, 1))}, api.ErrFull},
		{"it freezes too late", api.Melt{Mass: api.MaxMelt}, []api.Step{feed(1, like(1, 1)), freeze(1, like(1, 1))}, api.ErrFull},
	} {
		wantError(t, c.name, c.m, c.l, c.want)
	}
}

// P3.1: of several errors the one that is named first, and of steps the first one.
func TestOrderOfErrors(t *testing.T) {
	bad := api.Melt{Mass: -1}
	many := slices.Repeat([]api.Step{freeze(1, like(1, 1))}, 201)
	wrong := slices.Repeat([]api.Step{{}}, 201)
	dry := freeze(2000, like(1, 1))
	full := feed(api.MaxMelt, like(1, 1))
	wantError(t, "too many steps", example(), many, api.ErrLong)
	wantError(t, "a melt before too many steps", bad, many, api.ErrArg)
	wantError(t, "too many steps before wrong ones", example(), wrong, api.ErrLong)
	wantError(t, "too many steps before dry ones", api.Melt{}, many, api.ErrLong)
	wantError(t, "a melt before a dry step", bad, []api.Step{dry}, api.ErrArg)
	wantError(t, "a dry step before a wrong one", example(), []api.Step{dry, {}}, api.ErrDry)
	wantError(t, "a full melt before a wrong step", example(), []api.Step{full, {}}, api.ErrFull)
	wantError(t, "a wrong step before a dry one", example(), []api.Step{{}, dry}, api.ErrArg)
	wantError(t, "a wrong step that would be dry", example(), []api.Step{freeze(2000, like(1, 20001))}, api.ErrArg)
	wantError(t, "a wrong step that would be full", example(), []api.Step{feed(api.MaxMelt, like(2, 1))}, api.ErrArg)
	wantError(t, "a dry step before a full melt", example(), []api.Step{dry, full}, api.ErrDry)
	wantError(t, "a full melt before a dry step", example(), []api.Step{full, dry}, api.ErrFull)
}
