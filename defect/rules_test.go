package defect_test

import (
	"slices"
	"testing"

	"boule/api"
	"boule/defect"
)

// P1, R2, R5: whatever the integers, calls come back, and with an error all
// other results are zero values.
func TestHostileIntegers(t *testing.T) {
	for _, a := range hostile {
		for _, b := range hostile {
			for _, c := range hostile {
				hostileModel(t, a, b, c)
				hostileGrowth(t, a, b, c)
				hostileAnneal(t, a, b, c)
			}
		}
	}
}

func hostileModel(t *testing.T, a, b, c int) {
	t.Helper()
	for _, m := range []api.DefectModel{
		silicon(), borders(a, span(b, c), span(b, c), span(b, c), span(b, c)), borders(1, at(a), span(a, b), at(b), span(b, c)),
	} {
		bad := defect.CheckModel(m) != api.OK
		if s, e := defect.Regions(m, span(a, b), span(b, c)); e != api.OK && s != 0 || e == api.OK && (s == 0 || s > every) || bad && e != api.ErrArg {
			t.Error("Regions", m, a, b, c, s, e)
		}
		zones := []api.Range{at(2), span(a, b)}
		l, e := defect.Window(m, zones, quiet)
		if e != api.OK && len(l) != 0 || bad && e != api.ErrArg {
			t.Error("Window", m, zones, l, e)
		}
		zone, region, f := defect.Why(m, zones, quiet, c)
		if f != api.OK && (zone != 0 || region != 0) || e != api.OK && f != e {
			t.Error("Why", m, zones, c, zone, region, f)
		}
		if f == api.OK && has(l, c) != (zone < 0) {
			t.Error("Why and Window", m, zones, c, zone, l)
		}
	}
}

func hostileGrowth(t *testing.T, a, b, c int) {
	t.Helper()
	for _, ch := range []change{
		func(g *api.Growth) { g.Rates[0].X, g.Factors[0].X, g.Rates[1].X, g.Factors[1].X = a, a, b, b },
		func(g *api.Growth) { g.Rates[0].Y, g.Factors[1].Y, g.Off = a, b, c },
		func(g *api.Growth) { g.Zones[0], g.Factors[0].Y = span(a, b), c },
	} {
		g := ramp()
		ch(&g)
		bad := defect.CheckGrowth(g) != api.OK
		for _, cuts := range [][]int{{0, 1}, {a, b}, {c}, {b, c, a}} {
			if l, e := defect.Print(silicon(), g, cuts); e != api.OK && len(l) != 0 || bad && e != api.ErrArg {
				t.Error("Print", g, cuts, l, e)
			}
		}
		if g.Rates[1].X > 100 {
			continue // Every millimetre is looked at.
		}
		if l, e := defect.Usable(silicon(), g, quiet); e != api.OK && len(l) != 0 || bad && e != api.ErrArg {
			t.Error("Usable", g, l, e)
		}
	}
}

func hostileAnneal(t *testing.T, a, b, c int) {
	t.Helper()
	for _, l := range [][]api.HeatStep{heats(heat(a, b, c), heat(40, 5000, 6000)), heats(heat(0, a, b)), heats(heat(c, 0, 10000))} {
		for _, oxygen := range []api.Range{at(a), span(a, b), span(0, c)} {
			left, fallen, e := defect.Anneal(l, oxygen, quiet)
			if e != api.OK && (left != api.Range{} || fallen != api.Range{}) || left.Low < 0 || left.Low > left.High || fallen.Low < 0 || fallen.Low > fallen.High {
				t.Error("Anneal", l, oxygen, left, fallen, e)
			}
		}
	}
}

// P1, R5: the longest growth, with as many zones, knots and cuts as there may
// be, comes back soon.
func TestCrowdedGrowth(t *testing.T) {
	g := api.Growth{
		Rates: stairs(60, 3000, 1000, 900), Off: 10,
		Zones: slices.Repeat([]api.Range{span(90, 110)}, 20), Factors: stairs(60, 3000, 10000, 9000),
	}
	m := borders(1, at(5), at(8), at(14), at(20))
	if l := usable(t, m, g, quiet); !slices.Equal(l, []api.Range{span(0, 3000)}) {
		t.Error(l)
	}
	var cuts []int
	for i := range 500 {
		cuts = append(cuts, 6*i)
	}
	l := printed(t, m, g, cuts...)
	for _, sets := range l {
		if !slices.Equal(sets, slices.Repeat([]api.RegionSet{outer}, 20)) && !slices.Equal(sets, slices.Repeat([]api.RegionSet{quiet}, 20)) {
			t.Error(sets)
		}
	}
	if len(l) != 499 {
		t.Error(len(l))
	}
}

// R4: no argument is changed, and what is done to results changes nothing.
func TestMemory(t *testing.T) {
	// Room behind the zones, so that whoever appends to them writes into it.
	room := []api.Range{at(3), at(2), span(2, 3), at(7)}
	zones := room[:3]
	g := ramp()
	g.Zones = zones
	same := ramp()
	cuts, steps := []int{0, 1, 2}, heats(heat(40, 5000, 5000), heat(30, 5000, 5000))
	for range 2 {
		w := window(t, silicon(), zones, every&^ring)
		if !slices.Equal(w, []api.Range{span(0, 10), span(25, fastest)}) {
			t.Error("Window", w)
		}
		l := printed(t, silicon(), g, cuts...)
		if !sameSets(l, [][]api.RegionSet{{quiet, outer | ring, quiet | ring}, {quiet, ring, quiet | ring}}) {
			t.Error("Print", l)
		}
		u := usable(t, silicon(), g, every&^vacancy)
		if !slices.Equal(u, []api.Range{span(0, 2)}) {
			t.Error("Usable", u)
		}
		left, fallen := anneal(t, steps, at(100), every)
		if left != at(50) || fallen != at(50) {
			t.Error("Anneal", left, fallen)
		}
		w[0], l[0][0], l[1], u[0] = span(-1, -1), 99, nil, span(-1, -1)
	}
	if !slices.Equal(room, []api.Range{at(3), at(2), span(2, 3), at(7)}) {
		t.Error("zones", room)
	}
	if !slices.Equal(g.Rates, same.Rates) || !slices.Equal(g.Factors, same.Factors) || !slices.Equal(cuts, []int{0, 1, 2}) {
		t.Error(g, cuts)
	}
	if !slices.Equal(steps, heats(heat(40, 5000, 5000), heat(30, 5000, 5000))) {
		t.Error("steps", steps)
	}
}

// R4: no two slices share their sets.
func TestSlicesShareNoMemory(t *testing.T) {
	l := printed(t, silicon(), steady(10, 0, at(2), 10000), 0, 1, 2, 3)
	_ = append(l[0], 99)
	l[1][0] = 99
	if l[0][0] != outer || l[2][0] != outer {
		t.Error(l)
	}
}

// R3: no list and an empty one.
func TestEmptyLists(t *testing.T) {
	for _, zones := range [][]api.Range{nil, {}} {
		if l := window(t, silicon(), zones, 0); !slices.Equal(l, []api.Range{span(0, fastest)}) {
			t.Error("Window", l)
		}
		if zone, region, e := defect.Why(silicon(), zones, 0, 5); zone != -1 || region != 0 || e != api.OK {
			t.Error("Why", zone, region, e)
		}
		g := ramp()
		g.Zones = zones
		if e := defect.CheckGrowth(g); e != api.ErrArg {
			t.Error("CheckGrowth", e)
		}
	}
	for _, cuts := range [][]int{nil, {}} {
		if l := printed(t, silicon(), ramp(), cuts...); len(l) != 0 {
			t.Error("Print", l)
		}
	}
	for _, steps := range [][]api.HeatStep{nil, {}} {
		if left, fallen := anneal(t, steps, span(2, 7), ring); left != span(2, 7) || fallen != at(0) {
			t.Error("Anneal", left, fallen)
		}
	}
}
