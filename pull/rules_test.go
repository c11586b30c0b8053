package pull_test

import (
	"math"
	"slices"
	"testing"

	"boule/api"
	"boule/pull"
)

// P1, R2, R5: whatever the integers, calls come back, and with an error all
// other results are zero values.
func TestHostileIntegers(t *testing.T) {
	for _, a := range hostile {
		for _, b := range hostile {
			for _, c := range hostile {
				hostileRun(t, soft(), a, b, c)
				hostileRun(t, greatest(), a, b, c)
				hostileControl(t, a, b, c)
			}
		}
	}
}

func hostileRun(t *testing.T, p api.Puller, a, b, c int) {
	t.Helper()
	runs := []api.PullRun{
		{Settings: []api.PullSetting{at(0, api.PhaseBody, a)}, End: b, Samples: []api.Sample{seen(c, 0, a)}},
		{Settings: []api.PullSetting{at(a, api.PhaseBody, 1)}, End: 5},
		{Settings: []api.PullSetting{at(0, api.Phase(a), 1), at(b, 4, c)}, End: 5},
		{Settings: []api.PullSetting{at(0, 4, 1)}, End: 5, Samples: []api.Sample{seen(0, a, b), seen(c, a, c)}},
		{Settings: []api.PullSetting{at(0, 4, 1)}, End: 5, Events: []api.Happened{event(a, api.Happening(b)), event(c, 4)}},
	}
	pullers := []api.Puller{p, p, p}
	pullers[1].Grow, pullers[1].Hold, pullers[1].Grace = a, b, c
	pullers[2].Rules[3].Seconds, pullers[2].Limits, pullers[2].Slip = span(a, b), span(b, c), a
	for _, p := range pullers {
		for _, r := range runs {
			bad := pull.CheckPuller(p) != api.OK || pull.CheckRun(r) != api.OK
			if _, _, e := pull.Conflict(p, r); (e != api.OK) != bad {
				t.Error("Conflict", p, r, e)
			}
			if bad {
				wantError(t, "hostile", p, r, api.ErrArg)
				continue
			}
			hostileSecond(t, p, r, c)
		}
	}
}

func hostileSecond(t *testing.T, p api.Puller, r api.PullRun, k int) {
	t.Helper()
	if x, e := pull.Diameter(p, r, k); e != api.OK && x != (api.Range{}) || x.Low > x.High {
		t.Error("Diameter", p, r, k, x, e)
	}
	if x, e := pull.Between(p, r, k); e != api.OK && x != (api.Range{}) || x.Low > x.High {
		t.Error("Between", p, r, k, x, e)
	}
	if n, e := pull.Grown(r, 0, k); e != api.OK && n != 0 || n < 0 {
		t.Error("Grown", r, k, n, e)
	}
	if n, e := pull.Reached(r, k); e != api.OK && n != 0 || n < 0 || n > r.End {
		t.Error("Reached", r, k, n, e)
	}
	if r.End > 100 {
		return // Every second is looked at.
	}
	if l, e := pull.Sold(p, r); e != api.OK && len(l) != 0 {
		t.Error("Sold", p, r, l, e)
	}
}

func hostileControl(t *testing.T, a, b, c int) {
	t.Helper()
	o := api.Optics{Scale: span(0, a), InnerGap: span(b, c), OuterGap: span(0, c)}
	if x, e := pull.Seen(o, api.Ring{Inner: span(a, b), Outer: span(0, b)}); e != api.OK && x != (api.Range{}) || x.Low > x.High {
		t.Error("Seen", o, x, e)
	}
	g := api.Gains{Rate: api.Frac{Num: a, Den: b}, Heat: api.Frac{Num: c, Den: a}}
	for _, s := range []api.PullSetting{at(a, 4, b), at(0, api.Phase(c), a), at(c, 1, 1)} {
		for _, k := range []int{a, b, c, 100} {
			if x, e := pull.Steer(greatest(), g, s, k, span(a, c)); e != api.OK && x != (api.PullSetting{}) {
				t.Error("Steer", g, s, k, x, e)
			}
			if x, e := pull.Steer(soft(), g, s, k, span(0, b)); e != api.OK && x != (api.PullSetting{}) {
				t.Error("Steer", g, s, k, x, e)
			}
		}
	}
}

// crowded returns a puller and the longest run, with all that it may have.
func crowded() (api.Puller, api.PullRun) {
	r := api.PullRun{End: 100000}
	for i := range 60 {
		r.Settings = append(r.Settings, at(1666*i, api.PhaseBody, 1000000))
	}
	for i := range 100 {
		r.Samples = append(r.Samples, seen(1000*i, 500000, 500000))
	}
	for i := range 10 {
		r.Events = append(r.Events, event(9000*i+4000, api.LeakOpen), event(9000*i+4001, api.LeakShut))
	}
	return changes(0, 0), r
}

// P1, R5: the longest run comes back soon.
func TestCrowdedRun(t *testing.T) {
	p, r := crowded()
	l := sold(t, p, r)
	if len(l) != 11 || l[0] != span(0, 4000000000) || l[10] != span(85001000000, 100000000000) {
		t.Error(l)
	}
	if l := accepted(t, p, r); !slices.Equal(l, []api.Range{span(0, 99999)}) {
		t.Error(l)
	}
	if n, e := pull.Reached(r, 99999000001); n != 100000 || e != api.OK {
		t.Error(n, e)
	}
}

// R4: no argument is changed, and what is done to results changes nothing.
func TestMemory(t *testing.T) {
	p := changes(2, 1)
	p.Limits = span(97, 104)
	// Room behind the samples, so that whoever appends to them writes into it.
	room := []api.Sample{seen(1, 100, 100), seen(3, 0, 500), seen(5, 100, 100), seen(6, 7, 7)}
	r := body(8)
	r.Samples = room[:3]
	r.Events = []api.Happened{event(2, api.LeakOpen), event(2, api.LeakShut)}
	same := api.PullRun{Settings: slices.Clone(r.Settings), End: 8, Events: slices.Clone(r.Events)}
	for range 2 {
		_, _ = pull.Obeys(p, r)
		first, again := diameter(t, p, r, 3), between(t, p, r, 0)
		if first != span(98, 102) || again != span(98, 101) {
			t.Error(first, again)
		}
		a, s := accepted(t, p, r), sold(t, p, r)
		if !slices.Equal(a, []api.Range{span(0, 6)}) || !slices.Equal(s, []api.Range{span(0, 70)}) {
			t.Error(a, s)
		}
		a[0], s[0] = span(-1, -1), span(-1, -1)
	}
	if !slices.Equal(room, []api.Sample{seen(1, 100, 100), seen(3, 0, 500), seen(5, 100, 100), seen(6, 7, 7)}) {
		t.Error("samples", room)
	}
	if !slices.Equal(r.Settings, same.Settings) || !slices.Equal(r.Events, same.Events) {
		t.Error(r)
	}
}

// R3: no list and an empty one.
func TestEmptyLists(t *testing.T) {
	for _, r := range []api.PullRun{body(6), {Settings: body(6).Settings, End: 6, Samples: []api.Sample{}, Events: []api.Happened{}}} {
		if i, j, e := pull.Conflict(soft(), r); i != -1 || j != -1 || e != api.OK {
			t.Error("Conflict", i, j, e)
		}
		if at, kind, e := pull.Stop(soft(), r); at != -1 || kind != 0 || e != api.OK {
			t.Error("Stop", at, kind, e)
		}
		if l := accepted(t, soft(), r); len(l) != 0 {
			t.Error("Accepted", l)
		}
		if l := sold(t, soft(), r); len(l) != 0 {
			t.Error("Sold", l)
		}
		if _, e := pull.Diameter(soft(), r, 0); e != api.ErrNone {
			t.Error("Diameter", e)
		}
	}
	empty := api.PullRun{Settings: []api.PullSetting{}, End: 6}
	if e := pull.CheckRun(empty); e != api.ErrArg {
		t.Error("CheckRun", e)
	}
}

// P4.1, R8: kinds that are far from any.
func TestFarKinds(t *testing.T) {
	for _, n := range []int{math.MinInt, -1, 0, 6, math.MaxInt} {
		r := body(6)
		r.Settings[0].Phase = api.Phase(n)
		wantRunError(t, "a phase", r)
		r = body(6)
		r.Events = []api.Happened{event(1, api.Happening(n))}
		wantRunError(t, "an event", r)
	}
}
