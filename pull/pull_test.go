package pull_test

import (
	"math"
	"slices"
	"testing"

	"boule/api"
	"boule/pull"
)

// wantError calls all functions with a run, or a puller and a run, and checks
// that they return this error, whatever the other arguments are, and nothing else.
func wantError(t *testing.T, name string, p api.Puller, r api.PullRun, want api.Errno) {
	t.Helper()
	if at, kind, e := pull.Stop(p, r); e != want || at != 0 || kind != 0 {
		t.Error(name, "Stop", at, kind, e)
	}
	if b, e := pull.Obeys(p, r); e != want || b != (api.PullBreach{}) {
		t.Error(name, "Obeys", b, e)
	}
	if i, j, e := pull.Conflict(p, r); e != want || i != 0 || j != 0 {
		t.Error(name, "Conflict", i, j, e)
	}
	for _, k := range []int{0, -1, math.MaxInt} {
		if x, e := pull.Diameter(p, r, k); e != want || x != (api.Range{}) {
			t.Error(name, "Diameter", k, x, e)
		}
		if x, e := pull.Between(p, r, k); e != want || x != (api.Range{}) {
			t.Error(name, "Between", k, x, e)
		}
	}
	if l, e := pull.Accepted(p, r); e != want || len(l) != 0 {
		t.Error(name, "Accepted", l, e)
	}
	if l, e := pull.Sold(p, r); e != want || len(l) != 0 {
		t.Error(name, "Sold", l, e)
	}
}

// wantRunError is wantError for a run that is not valid.
func wantRunError(t *testing.T, name string, r api.PullRun) {
	t.Helper()
	wantError(t, name, soft(), r, api.ErrArg)
	if e := pull.CheckRun(r); e != api.ErrArg {
		t.Error(name, "CheckRun", e)
	}
	for _, n := range []int{0, -1, math.MaxInt} {
		if x, e := pull.Grown(r, n, n); e != api.ErrArg || x != 0 {
			t.Error(name, "Grown", n, x, e)
		}
		if x, e := pull.Reached(r, n); e != api.ErrArg || x != 0 {
			t.Error(name, "Reached", n, x, e)
		}
	}
}

// greatest returns a puller with all numbers at their limits.
func greatest() api.Puller {
	p := api.Puller{Grow: 1000000, Shrink: 1000000, Limits: span(1000000, 1000000), Slip: 10000000000, Hold: 100000, Grace: 100000}
	for i := range p.Rules {
		r := &p.Rules[i]
		r.Seconds, r.Length = span(100000, 100000), span(10000000000, 10000000000)
		for g := range r.Bounds {
			r.Bounds[g], r.Ramp[g] = span(1000000, 1000000), 1000000
		}
	}
	return p
}

// P4.1: limits that are just met.
func TestValidPullers(t *testing.T) {
	for _, p := range []api.Puller{{}, soft(), greatest()} {
		if e := pull.CheckPuller(p); e != api.OK {
			t.Error(p, e)
		}
		if _, e := pull.Obeys(p, two()); e != api.OK {
			t.Error("Obeys", p, e)
		}
	}
}

// P4.1: pullers that are just not valid any more, in every rule and for every gauge.
func TestInvalidPullers(t *testing.T) {
	wrong := func(most int) []api.Range { return []api.Range{span(-1, 1), span(2, 1), span(0, most+1)} }
	check := func(name string, change func(p *api.Puller)) {
		t.Helper()
		p := soft()
		change(&p)
		if e := pull.CheckPuller(p); e != api.ErrArg {
			t.Error(name, p, e)
		}
		wantError(t, name, p, body(6, seen(0, 0, 0), seen(1, 50, 50)), api.ErrArg)
	}
	for i := range 5 {
		for g := range 6 {
			for _, x := range wrong(1000000) {
				check("Bounds", func(p *api.Puller) { p.Rules[i].Bounds[g] = x })
			}
			for _, n := range []int{-1, 1000001} {
				check("Ramp", func(p *api.Puller) { p.Rules[i].Ramp[g] = n })
			}
		}
		for _, x := range wrong(100000) {
			check("Seconds", func(p *api.Puller) { p.Rules[i].Seconds = x })
		}
		for _, x := range wrong(10000000000) {
			check("Length", func(p *api.Puller) { p.Rules[i].Length = x })
		}
	}
	for _, x := range wrong(1000000) {
		check("Limits", func(p *api.Puller) { p.Limits = x })
	}
	for _, n := range []int{-1, 1000001} {
		check("Grow", func(p *api.Puller) { p.Grow = n })
		check("Shrink", func(p *api.Puller) { p.Shrink = n })
	}
	for _, n := range []int{-1, 10000000001} {
		check("Slip", func(p *api.Puller) { p.Slip = n })
	}
	for _, n := range []int{-1, 100001} {
		check("Hold", func(p *api.Puller) { p.Hold = n })
		check("Grace", func(p *api.Puller) { p.Grace = n })
	}
}

// settings returns so many settings, one in each second.
func settings(n int) []api.PullSetting {
	var l []api.PullSetting
	for k := range n {
		l = append(l, at(k, api.PhaseSeed, k))
	}
	return l
}

// samples returns so many samples, one in each second.
func samples(n int) []api.Sample {
	var l []api.Sample
	for k := range n {
		l = append(l, seen(k, 5, 5))
	}
	return l
}

// P4.1: limits that are just met.
func TestValidRuns(t *testing.T) {
	most := [api.Gauges]int{1000000, 1000000, 1000000, 1000000, 1000000, 1000000}
	for name, r := range map[string]api.PullRun{
		"the shortest":     {Settings: settings(1), End: 1},
		"the longest":      {Settings: settings(1), End: 100000},
		"all settings":     {Settings: settings(60), End: 60},
		"the last seconds": {Settings: []api.PullSetting{at(0, 5, 0), at(99998, 1, 0), {At: 99999, Phase: 5, Values: most}}, End: 100000},
		"all samples":      {Settings: settings(1), End: 99, Samples: samples(100)},
		"sample limits":    {Settings: settings(1), End: 5, Samples: []api.Sample{seen(0, 0, 0), seen(5, 1000000, 1000000)}},
		"all events":       {Settings: settings(1), End: 5, Events: slices.Repeat([]api.Happened{event(5, api.LeakShut)}, 20)},
		"event limits":     {Settings: settings(1), End: 5, Events: []api.Happened{event(0, 1), event(0, 2), event(3, 3), event(3, 4), event(5, 5)}},
	} {
		if e := pull.CheckRun(r); e != api.OK {
			t.Error(name, e)
		}
		if _, _, e := pull.Stop(soft(), r); e != api.OK {
			t.Error(name, "Stop", e)
		}
	}
}

// P4.1: runs that are just not valid any more.
func TestInvalidRuns(t *testing.T) {
	for name, change := range map[string]func(r *api.PullRun){
		"no settings":                  func(r *api.PullRun) { r.Settings = nil },
		"too many settings":            func(r *api.PullRun) { r.Settings = settings(61) },
		"a late first setting":         func(r *api.PullRun) { r.Settings[0].At = 1 },
		"an early first setting":       func(r *api.PullRun) { r.Settings[0].At = -1 },
		"two settings at once":         func(r *api.PullRun) { r.Settings[1].At = 0 },
		"a setting at the end":         func(r *api.PullRun) { r.Settings[1].At = 200 },
		"a setting before another":     func(r *api.PullRun) { r.Settings = append(r.Settings, at(99, 4, 1)) },
		"no end":                       func(r *api.PullRun) { r.End, r.Settings = 0, r.Settings[:1] },
		"an end before all":            func(r *api.PullRun) { r.End, r.Settings = -1, r.Settings[:1] },
		"a late end":                   func(r *api.PullRun) { r.End = 100001 },
		"the phase 0":                  func(r *api.PullRun) { r.Settings[0].Phase = 0 },
		"the phase 6":                  func(r *api.PullRun) { r.Settings[1].Phase = 6 },
		"a low value":                  func(r *api.PullRun) { r.Settings[1].Values[0] = -1 },
		"a high value":                 func(r *api.PullRun) { r.Settings[0].Values[5] = 1000001 },
		"too many samples":             func(r *api.PullRun) { r.Samples = samples(101) },
		"a sample before all":          func(r *api.PullRun) { r.Samples = []api.Sample{seen(-1, 5, 5)} },
		"a sample behind all":          func(r *api.PullRun) { r.Samples = []api.Sample{seen(201, 5, 5)} },
		"two samples at once":          func(r *api.PullRun) { r.Samples = []api.Sample{seen(3, 5, 5), seen(3, 5, 5)} },
		"a sample before another":      func(r *api.PullRun) { r.Samples = []api.Sample{seen(3, 5, 5), seen(2, 5, 5)} },
		"a sample below 0":             func(r *api.PullRun) { r.Samples = []api.Sample{seen(3, -1, 5)} },
		"a sample of nothing":          func(r *api.PullRun) { r.Samples = []api.Sample{seen(3, 6, 5)} },
		"a sample that is too wide":    func(r *api.PullRun) { r.Samples = []api.Sample{seen(3, 5, 5), seen(4, 5, 1000001)} },
		"too many events":              func(r *api.PullRun) { r.Events = slices.Repeat([]api.Happened{event(5, 2)}, 21) },
		"an event before all":          func(r *api.PullRun) { r.Events = []api.Happened{event(-1, 2)} },
		"an event behind all":          func(r *api.PullRun) { r.Events = []api.Happened{event(201, 2)} },
		"an event before another":      func(r *api.PullRun) { r.Events = []api.Happened{event(5, 2), event(4, 3)} },
		"the event 0":                  func(r *api.PullRun) { r.Events = []api.Happened{event(5, 0)} },
		"the event 6":                  func(r *api.PullRun) { r.Events = []api.Happened{event(5, 2), event(5, 6)} },
		"an error before the others":   func(r *api.PullRun) { r.Samples = []api.Sample{seen(0, 0, 0), seen(1, 9, 9), seen(2, 2, 1)} },
		"an end that nothing is below": func(r *api.PullRun) { r.End = math.MinInt },
		"an end that all is below":     func(r *api.PullRun) { r.End = math.MaxInt },
	} {
		r := two()
		change(&r)
		wantRunError(t, name, r)
	}
}

// R1: the errors behind the arguments, in their order.
func TestOrderOfErrors(t *testing.T) {
	contradicts := body(6, seen(0, 0, 0), seen(1, 50, 50))
	for _, c := range []struct {
		name              string
		r                 api.PullRun
		at                int
		diameter, between api.Errno
	}{
		{"a second before all", contradicts, -1, api.ErrRange, api.ErrRange},
		{"the end", contradicts, 6, api.ErrSight, api.ErrRange},
		{"behind the end", contradicts, 7, api.ErrRange, api.ErrRange},
		{"the last second", contradicts, 5, api.ErrSight, api.ErrSight},
		{"no samples", body(6), 0, api.ErrNone, api.ErrNone},
		{"no samples at the end", body(6), 6, api.ErrNone, api.ErrRange},
		{"no samples behind the end", body(6), 7, api.ErrRange, api.ErrRange},
		{"no second", body(6), math.MinInt, api.ErrRange, api.ErrRange},
	} {
		if x, e := pull.Diameter(soft(), c.r, c.at); e != c.diameter || x != (api.Range{}) {
			t.Error(c.name, "Diameter", x, e)
		}
		if x, e := pull.Between(soft(), c.r, c.at); e != c.between || x != (api.Range{}) {
			t.Error(c.name, "Between", x, e)
		}
	}
	if l, e := pull.Accepted(soft(), contradicts); e != api.ErrSight || len(l) != 0 {
		t.Error("Accepted", l, e)
	}
	if l, e := pull.Sold(soft(), contradicts); e != api.ErrSight || len(l) != 0 {
		t.Error("Sold", l, e)
	}
}
