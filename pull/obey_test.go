package pull_test

import (
	"testing"

	"boule/api"
	"boule/pull"
)

// whole returns a run of all phases, each of 20 seconds and 200 micrometres.
func whole() api.PullRun {
	r := api.PullRun{End: 100}
	for i := range 5 {
		r.Settings = append(r.Settings, at(20*i, api.Phase(i+1), 10))
	}
	return r
}

// lost is the loss of the structure.
func lost(t int) []api.Happened { return []api.Happened{event(t, api.LostStructure)} }

// P4.4: each rule, just kept and just broken.
func TestObeys(t *testing.T) {
	type change func(p *api.Puller, r *api.PullRun)
	breach := func(rule api.PullRule, at, gauge int) api.PullBreach {
		return api.PullBreach{Rule: rule, At: at, Gauge: gauge}
	}
	none := api.PullBreach{}
	for _, c := range []struct {
		name   string
		change change
		want   api.PullBreach
	}{
		{"nothing", func(p *api.Puller, r *api.PullRun) {}, none},

		{"begins with the neck", func(p *api.Puller, r *api.PullRun) { r.Settings[0].Phase = 2 }, breach(1, 0, 0)},
		{"leaves the neck out", func(p *api.Puller, r *api.PullRun) { r.Settings[1].Phase = 3 }, breach(1, 1, 0)},
		{"goes back", func(p *api.Puller, r *api.PullRun) { r.Settings[2].Phase = 1 }, breach(1, 2, 0)},
		{"goes back by one", func(p *api.Puller, r *api.PullRun) { r.Settings[4].Phase = 3 }, breach(1, 4, 0)},
		{"stays", func(p *api.Puller, r *api.PullRun) { r.Settings[4].Phase = 4 }, none},
		{"has the seed alone", func(p *api.Puller, r *api.PullRun) { r.Settings = r.Settings[:1] }, none},

		{"below its bounds", func(p *api.Puller, r *api.PullRun) { p.Rules[3].Bounds[1] = span(1, 5) }, breach(2, 3, 1)},
		{"above its bounds", func(p *api.Puller, r *api.PullRun) { p.Rules[0].Bounds[0] = span(0, 9) }, breach(2, 0, 0)},
		{"at its bounds", func(p *api.Puller, r *api.PullRun) { p.Rules[0].Bounds[0] = span(10, 10) }, none},
		{"the first gauge", func(p *api.Puller, r *api.PullRun) {
			p.Rules[2].Bounds[5], p.Rules[2].Bounds[4] = span(1, 1), span(1, 1)
		}, breach(2, 2, 4)},
		{"the first setting", func(p *api.Puller, r *api.PullRun) {
			p.Rules[4].Bounds[0], p.Rules[1].Bounds[5] = span(1, 1), span(1, 1)
		}, breach(2, 1, 5)},

		{"up too fast", func(p *api.Puller, r *api.PullRun) { r.Settings[4].Values[5], p.Rules[4].Ramp[5] = 21, 1 }, breach(3, 4, 5)},
		{"up as fast as it may", func(p *api.Puller, r *api.PullRun) { r.Settings[4].Values[5], p.Rules[4].Ramp[5] = 20, 1 }, none},
		{"down too fast", func(p *api.Puller, r *api.PullRun) { r.Settings[0].Values[5], p.Rules[1].Ramp[5] = 41, 2 }, breach(3, 1, 5)},
		{"down as fast as it may", func(p *api.Puller, r *api.PullRun) { r.Settings[0].Values[5], p.Rules[1].Ramp[5] = 40, 2 }, none},
		{"by the rule of its own phase", func(p *api.Puller, r *api.PullRun) { r.Settings[0].Values[5], p.Rules[0].Ramp[5] = 40, 0 }, none},
		{"not at all", func(p *api.Puller, r *api.PullRun) { p.Rules[2].Ramp = [6]int{} }, none},
		{"the first gauge that is too fast", func(p *api.Puller, r *api.PullRun) {
			r.Settings[1].Values = [6]int{10, 0, 5, 0, 5, 0}
			p.Rules[1].Ramp = [6]int{}
		}, breach(3, 1, 2)},

		{"too many seconds", func(p *api.Puller, r *api.PullRun) { p.Rules[1].Seconds = span(0, 19) }, breach(4, 2, 0)},
		{"too few seconds", func(p *api.Puller, r *api.PullRun) { p.Rules[1].Seconds = span(21, 30) }, breach(4, 2, 0)},
		{"the right seconds", func(p *api.Puller, r *api.PullRun) { p.Rules[1].Seconds = span(20, 20) }, none},
		{"too few seconds at last", func(p *api.Puller, r *api.PullRun) { p.Rules[4].Seconds = span(21, 30) }, none},
		{"too many seconds at last", func(p *api.Puller, r *api.PullRun) { p.Rules[4].Seconds = span(0, 19) }, breach(4, 5, 0)},
		{"seconds of several settings", func(p *api.Puller, r *api.PullRun) {
			r.Settings[1].Phase, r.Settings[2].Phase, r.Settings[3].Phase, r.Settings[4].Phase = 1, 1, 2, 2
			p.Rules[0].Seconds, p.Rules[1].Seconds = span(60, 60), span(0, 40)
		}, none},
		{"too many seconds of several settings", func(p *api.Puller, r *api.PullRun) {
			r.Settings[1].Phase, r.Settings[2].Phase, r.Settings[3].Phase, r.Settings[4].Phase = 1, 1, 2, 2
			p.Rules[1].Seconds = span(0, 39)
		}, breach(4, 2, 0)},
		{"the last phase of a run that ends early", func(p *api.Puller, r *api.PullRun) {
			r.Settings, r.End = r.Settings[:3], 50
			p.Rules[2].Seconds, p.Rules[2].Length = span(20, 30), span(200, 300)
		}, none},
		{"a phase that has no settings", func(p *api.Puller, r *api.PullRun) {
			r.Settings, r.End = r.Settings[:3], 50
			p.Rules[3].Seconds, p.Rules[3].Length = span(20, 30), span(200, 300)
		}, none},

		{"too much grown", func(p *api.Puller, r *api.PullRun) { p.Rules[2].Length = span(0, 199) }, breach(5, 3, 0)},
		{"too little grown", func(p *api.Puller, r *api.PullRun) { p.Rules[0].Length = span(201, 300) }, breach(5, 1, 0)},
		{"the right length", func(p *api.Puller, r *api.PullRun) { p.Rules[0].Length = span(200, 200) }, none},
		{"too much grown at last", func(p *api.Puller, r *api.PullRun) { p.Rules[4].Length = span(0, 199) }, breach(5, 5, 0)},
		{"too little grown at last", func(p *api.Puller, r *api.PullRun) { p.Rules[4].Length = span(201, 300) }, none},

		{"pulls after the stop", func(p *api.Puller, r *api.PullRun) { r.Events = lost(75) }, breach(6, 3, 0)},
		{"pulls in the grace", func(p *api.Puller, r *api.PullRun) { r.Events, p.Grace = lost(75), 25 }, none},
		{"pulls a second longer", func(p *api.Puller, r *api.PullRun) { r.Events, p.Grace = lost(75), 24 }, breach(6, 4, 0)},
		{"pulls to the end of the grace", func(p *api.Puller, r *api.PullRun) {
			r.Events, p.Grace = lost(75), 5
			r.Settings[4].Values[0] = 0
		}, none},
		{"pulls from the end of the grace on", func(p *api.Puller, r *api.PullRun) {
			r.Events, p.Grace = lost(75), 5
			r.Settings[3].Values[0] = 0
		}, breach(6, 4, 0)},
		{"pulls again", func(p *api.Puller, r *api.PullRun) {
			r.Events, p.Grace = lost(25), 10
			r.Settings[1].Values[0], r.Settings[2].Values[0] = 0, 0
		}, breach(6, 3, 0)},
		{"lost at the start", func(p *api.Puller, r *api.PullRun) { r.Events = lost(0) }, breach(6, 0, 0)},
		{"lost at the end", func(p *api.Puller, r *api.PullRun) { r.Events = lost(100) }, none},
		{"stopped by the power", func(p *api.Puller, r *api.PullRun) {
			r.Events, p.Hold = []api.Happened{event(15, api.PowerOff), event(90, api.PowerOn)}, 30
		}, breach(6, 2, 0)},
		{"a grace behind all", func(p *api.Puller, r *api.PullRun) { r.Events, p.Grace = lost(0), 100000 }, none},
	} {
		p, r := soft(), whole()
		c.change(&p, &r)
		if b, e := pull.Obeys(p, r); b != c.want || e != api.OK {
			t.Error(c.name, b, e)
		}
	}
}

// P4.4: of several breaches, setting by setting, then phase by phase, then the stop.
func TestObeysFirstBreach(t *testing.T) {
	p, r := soft(), whole()
	wants := func(rule api.PullRule, at, gauge int) {
		t.Helper()
		if b, e := pull.Obeys(p, r); b != (api.PullBreach{Rule: rule, At: at, Gauge: gauge}) || e != api.OK {
			t.Error(rule, at, gauge, "is", b, e)
		}
	}
	r.Events = lost(0)
	wants(api.RuleStopped, 0, 0)
	p.Rules[4].Length = span(0, 1)
	wants(api.RuleLength, 5, 0)
	p.Rules[4].Seconds = span(0, 1)
	wants(api.RuleSeconds, 5, 0)
	p.Rules[3].Length = span(0, 1)
	wants(api.RuleLength, 4, 0)
	p.Rules[0].Seconds = span(0, 1)
	wants(api.RuleSeconds, 1, 0)
	p.Rules[4].Ramp, r.Settings[4].Values[3] = [6]int{}, 1
	wants(api.RuleRamp, 4, 3)
	p.Rules[4].Bounds[5] = span(1, 1)
	wants(api.RuleBounds, 4, 5)
	r.Settings[4].Phase = 3
	wants(api.RulePhase, 4, 0)
	p.Rules[3].Ramp, r.Settings[3].Values[2] = [6]int{}, 1
	wants(api.RuleRamp, 3, 2)
	p.Rules[2].Bounds[1] = span(1, 1)
	wants(api.RuleBounds, 2, 1)
}

// plainBreach takes the rules one after another, in seconds.
func plainBreach(p api.Puller, r api.PullRun) api.PullBreach {
	for i, s := range r.Settings {
		before := api.PullSetting{Phase: api.PhaseSeed, Values: s.Values}
		if i > 0 {
			before = r.Settings[i-1]
		}
		if d := s.Phase - before.Phase; d < 0 || d > 1 || i == 0 && d != 0 {
			return api.PullBreach{Rule: api.RulePhase, At: i}
		}
		for g, b := range p.Rules[s.Phase-1].Bounds {
			if s.Values[g] < b.Low || s.Values[g] > b.High {
				return api.PullBreach{Rule: api.RuleBounds, At: i, Gauge: g}
			}
		}
		for g, ramp := range p.Rules[s.Phase-1].Ramp {
			if d := s.Values[g] - before.Values[g]; max(d, -d) > ramp*(s.At-before.At) {
				return api.PullBreach{Rule: api.RuleRamp, At: i, Gauge: g}
			}
		}
	}
	last := r.Settings[len(r.Settings)-1].Phase
	for phase := api.PhaseSeed; phase <= last; phase++ {
		seconds, length := 0, 0
		for k := range r.End {
			if r.Settings[settingAt(r, k)].Phase == phase {
				seconds++
				length += rateAt(r, k)
			}
		}
		rule := p.Rules[phase-1]
		if seconds > rule.Seconds.High || phase != last && seconds < rule.Seconds.Low {
			return api.PullBreach{Rule: api.RuleSeconds, At: int(phase)}
		}
		if length > rule.Length.High || phase != last && length < rule.Length.Low {
			return api.PullBreach{Rule: api.RuleLength, At: int(phase)}
		}
	}
	if stop, kind := plainStop(p, r); kind != 0 {
		for k := stop + p.Grace; k < r.End; k++ {
			if rateAt(r, k) != 0 {
				return api.PullBreach{Rule: api.RuleStopped, At: settingAt(r, k)}
			}
		}
	}
	return api.PullBreach{}
}

// P4.4: any runs.
func TestObeysOfAnyRun(t *testing.T) {
	r := dice()
	rules := map[api.PullRule]int{}
	for range 20000 {
		p := soft()
		run := api.PullRun{End: 1 + r.Intn(30)}
		run.Settings, run.Events = anySettings(r, 7, run.End, 3), anyEvents(r, 6, run.End)
		p.Hold, p.Grace = r.Intn(10), r.Intn(10)
		for i := range p.Rules {
			x := &p.Rules[i]
			x.Ramp[api.PullRate], x.Ramp[api.Heat] = 1+r.Intn(3), r.Intn(3)
			x.Seconds, x.Length = span(r.Intn(3), 10+r.Intn(20)), span(r.Intn(4), 15+r.Intn(40))
			if r.Intn(6) == 0 {
				x.Bounds[r.Intn(2)] = anyRange(r, 3)
			}
		}
		b, e := pull.Obeys(p, run)
		if want := plainBreach(p, run); b != want || e != api.OK {
			t.Fatal(p, run, "is", b, e, "wants", want)
		}
		rules[b.Rule]++
	}
	for rule := range api.RuleStopped + 1 {
		if rules[rule] < 100 {
			t.Error("too few breaches of the rule", rule, rules)
		}
	}
}
