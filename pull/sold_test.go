package pull_test

import (
	"slices"
	"testing"

	"boule/api"
	"boule/pull"
)

// sold returns what Sold returns for a run that has a course.
func sold(t *testing.T, p api.Puller, r api.PullRun) []api.Range {
	t.Helper()
	l, e := pull.Sold(p, r)
	if e != api.OK {
		t.Fatal("Sold", p, r, e)
	}
	return l
}

// P4.8, and examples 3 and 5.
func TestSold(t *testing.T) {
	const open, shut, off, on = api.LeakOpen, api.LeakShut, api.PowerOff, api.PowerOn
	happened := func(l ...api.Happened) func(p *api.Puller, r *api.PullRun) {
		return func(_ *api.Puller, r *api.PullRun) { r.Events = l }
	}
	for _, c := range []struct {
		name   string
		change func(p *api.Puller, r *api.PullRun)
		want   []api.Range
	}{
		{"all of it", happened(), []api.Range{span(0, 3000)}},
		{"no samples", func(p *api.Puller, r *api.PullRun) { r.Samples = nil }, nil},
		{"nothing grown", func(p *api.Puller, r *api.PullRun) {
			r.Settings[0].Values[0], r.Settings[1].Values[0] = 0, 0
		}, nil},

		{"example 5", happened(event(150, api.LostStructure)), []api.Range{span(0, 1900)}},
		{"lost too early", happened(event(30, api.LostStructure)), nil},
		{"lost a second later", happened(event(31, api.LostStructure)), []api.Range{span(0, 20)}},
		{"lost at the start", happened(event(0, api.LostStructure)), nil},
		{"lost at the end", happened(event(200, api.LostStructure)), []api.Range{span(0, 2400)}},
		{"no slip", func(p *api.Puller, r *api.PullRun) { r.Events, p.Slip = lost(150), 0 }, []api.Range{span(0, 2500)}},
		{"the longest slip", func(p *api.Puller, r *api.PullRun) { r.Events, p.Slip = lost(150), 10000000000 }, nil},
		{"not the first loss", happened(event(150, api.LostStructure), event(180, api.LostStructure)), []api.Range{span(0, 1900)}},

		{"a leak", happened(event(20, open), event(25, shut)), []api.Range{span(0, 400), span(500, 3000)}},
		{"a leak of a second", happened(event(20, open), event(21, shut)), []api.Range{span(0, 400), span(420, 3000)}},
		{"a leak at a moment", happened(event(20, open), event(20, shut)), []api.Range{span(0, 3000)}},
		{"a leak to the end", happened(event(190, open)), []api.Range{span(0, 2900)}},
		{"a leak at the end", happened(event(200, open)), []api.Range{span(0, 3000)}},
		{"a leak that is open already", happened(event(20, open), event(22, open), event(25, shut)), []api.Range{span(0, 400), span(500, 3000)}},
		{"a leak that is shut already", happened(event(20, open), event(22, shut), event(25, shut)), []api.Range{span(0, 400), span(440, 3000)}},
		{"two leaks that touch", happened(event(20, open), event(22, shut), event(22, open), event(25, shut)), []api.Range{span(0, 400), span(500, 3000)}},
		{"no leak", happened(event(20, shut)), []api.Range{span(0, 3000)}},
		{"all leaks", happened(event(0, open)), nil},

		{"no power", happened(event(20, off), event(25, on)), []api.Range{span(0, 400), span(500, 3000)}},
		{"no power for too long", happened(event(120, off), event(131, on)), []api.Range{span(0, 1700)}},
		{"no power as long as it may be", happened(event(120, off), event(130, on)), []api.Range{span(0, 2200), span(2300, 3000)}},
		{"a stop behind a stretch", happened(event(110, off), event(118, on), event(150, api.LostStructure)), []api.Range{span(0, 1900)}},
		{"a stop behind the next stretch", happened(event(80, off), event(88, on), event(150, api.LostStructure)), []api.Range{span(0, 1600), span(1760, 1900)}},
		{"a stop right behind a stretch", happened(event(87, off), event(95, on), event(150, api.LostStructure)), []api.Range{span(0, 1740)}},

		{"a tail", func(p *api.Puller, r *api.PullRun) { r.Settings[1].Phase = api.PhaseTail }, []api.Range{span(0, 2000)}},
		{"a shoulder", func(p *api.Puller, r *api.PullRun) { r.Settings[0].Phase = api.PhaseShoulder }, []api.Range{span(2000, 3000)}},
		{"no body", func(p *api.Puller, r *api.PullRun) { r.Settings[0].Phase, r.Settings[1].Phase = 1, 2 }, nil},
		{"a body after all", func(p *api.Puller, r *api.PullRun) {
			r.Settings = append(r.Settings, at(150, api.PhaseBody, 10))
			r.Settings[1].Phase = api.PhaseTail
		}, []api.Range{span(0, 2000), span(2500, 3000)}},

		{"two stretches that touch", func(p *api.Puller, r *api.PullRun) {
			r.Settings[0].Values[0] = 10
			r.Settings = append(r.Settings, at(150, api.PhaseBody, 10))
			r.Settings[1].Values[0] = 0
			r.Events = []api.Happened{event(100, open), event(120, shut)}
		}, []api.Range{span(0, 1000), span(1000, 1500)}},
		{"a stretch in which nothing is grown", func(p *api.Puller, r *api.PullRun) {
			r.Settings[1].Values[0] = 0
			r.Events = []api.Happened{event(100, open), event(120, shut)}
		}, []api.Range{span(0, 2000)}},

		{"a diameter that is not known", func(p *api.Puller, r *api.PullRun) {
			p.Grow, p.Shrink, p.Limits = 1, 1, span(499950, 500050)
		}, []api.Range{span(1000, 2500)}},
		{"a diameter that is not known when it is stopped", func(p *api.Puller, r *api.PullRun) {
			p.Grow, p.Shrink, p.Limits, r.Events = 1, 1, span(499950, 500050), lost(140)
		}, []api.Range{span(1000, 1800)}},
	} {
		p, r := changes(0, 0), two()
		p.Slip, p.Hold = 600, 10
		r.Samples = []api.Sample{seen(100, 500000, 500000)}
		c.change(&p, &r)
		if l := sold(t, p, r); !slices.Equal(l, c.want) {
			t.Error(c.name, l)
		}
	}
	p := changes(2, 1)
	p.Limits = span(97, 104)
	if l := sold(t, p, body(6, seen(0, 100, 100), seen(6, 100, 100))); !slices.Equal(l, []api.Range{span(0, 30), span(50, 60)}) {
		t.Error("example 3", l)
	}
}

// lastOf returns the last event of two kinds up to a time.
func lastOf(r api.PullRun, k int, one, other api.Happening) api.Happening {
	last := api.Happening(0)
	for _, x := range r.Events {
		if x.At <= k && (x.Kind == one || x.Kind == other) {
			last = x.Kind
		}
	}
	return last
}

// plainSold looks at every second.
func plainSold(t *testing.T, p api.Puller, r api.PullRun) []api.Range {
	t.Helper()
	stop, kind := plainStop(p, r)
	good := withinLimits(t, p, r)
	for k := range good {
		good[k] = good[k] && r.Settings[settingAt(r, k)].Phase == api.PhaseBody &&
			lastOf(r, k, api.LeakOpen, api.LeakShut) != api.LeakOpen &&
			lastOf(r, k, api.PowerOff, api.PowerOn) != api.PowerOff &&
			(kind == 0 || k+1 <= stop)
	}
	var l []api.Range
	for _, x := range plainRuns(good) {
		y := span(plainPlace(r, x.Low), plainPlace(r, x.High+1))
		if kind != 0 {
			y.High = min(y.High, plainPlace(r, stop)-p.Slip)
		}
		if y.High > y.Low {
			l = append(l, y)
		}
	}
	return l
}

// bodyRun returns a puller and a run with a course that is mostly body.
func bodyRun(i int) (api.Puller, api.PullRun) {
	r := dice()
	r.Seed(int64(i))
	p := changes(r.Intn(4), r.Intn(4))
	p.Slip, p.Hold = r.Intn(10), r.Intn(6)
	p.Limits = span(r.Intn(20), 30+r.Intn(20))
	run := api.PullRun{End: 1 + r.Intn(40)}
	run.Settings = anySettings(r, 6, run.End, 3)
	for i := range run.Settings {
		if r.Intn(3) > 0 {
			run.Settings[i].Phase = api.PhaseBody
		}
	}
	run.Samples, run.Events = sighted(r, p, 8, run.End, 50), anyEvents(r, 8, run.End)
	return p, run
}

// P4.8: any runs.
func TestSoldOfAnyRun(t *testing.T) {
	stretches := 0
	for i := range 5000 {
		p, run := bodyRun(i)
		l, want := sold(t, p, run), plainSold(t, p, run)
		if !slices.Equal(l, want) {
			t.Fatal(p, run, l, want)
		}
		stretches += len(l)
	}
	if stretches < 1000 {
		t.Error("only", stretches, "stretches")
	}
}

// P4.12, T4: what may be sold is good, and not after the stop, nor within Slip behind it.
func TestNothingBehind(t *testing.T) {
	for i := range 2000 {
		p, run := bodyRun(i)
		l := sold(t, p, run)
		stop, kind, _ := pull.Stop(p, run)
		for n, x := range l {
			if x.Low >= x.High || n > 0 && x.Low < l[n-1].High {
				t.Fatal("no stretches", run, l)
			}
			if kind != 0 && x.High > grown(t, run, 0, stop)-p.Slip {
				t.Fatal("behind the stop", p, run, l)
			}
		}
		// The pieces that are grown in good seconds, and not behind the stop.
		var good []api.Range
		for k, in := range withinLimits(t, p, run) {
			if in && run.Settings[settingAt(run, k)].Phase == api.PhaseBody && lastOf(run, k, api.LeakOpen, api.LeakShut) != api.LeakOpen && lastOf(run, k, api.PowerOff, api.PowerOn) != api.PowerOff {
				good = append(good, span(grown(t, run, 0, k), grown(t, run, 0, k+1)))
			}
		}
		for _, x := range l {
			for n := x.Low; n < x.High; n++ {
				if !slices.ContainsFunc(good, func(y api.Range) bool { return inside(span(n, n+1), y) }) {
					t.Fatal("not good", p, run, l, n)
				}
			}
		}
	}
}

// P4.12: with a lost structure more, nothing more may be sold, and nothing above
// its place less Slip.
func TestOneMoreLoss(t *testing.T) {
	r := dice()
	less := 0
	for i := range 5000 {
		p, run := bodyRun(i)
		before := sold(t, p, run)
		more := run
		k := r.Intn(run.End + 1)
		n := 0
		for n < len(run.Events) && run.Events[n].At <= k {
			n++
		}
		more.Events = slices.Insert(slices.Clone(run.Events), n, event(k, api.LostStructure))
		after := sold(t, p, more)
		if !covers(before, after) {
			t.Fatal("more is sold", p, run, k, before, after)
		}
		if len(after) > 0 && after[len(after)-1].High > grown(t, run, 0, k)-p.Slip {
			t.Fatal("it is spoiled", p, run, k, before, after)
		}
		if !slices.Equal(before, after) {
			less++
		}
	}
	if less < 100 {
		t.Error("only", less, "runs with less to sell")
	}
}
