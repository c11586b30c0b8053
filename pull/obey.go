package pull

import (
	"boule/api"
	"boule/check"
)

// contains reports whether a number is in a range.
func contains(r api.Range, n int) bool { return r.Low <= n && n <= r.High }

// reach returns between which values a gauge can be at a time, by its ramp and
// the setting before.
func reach(before api.PullSetting, at, gauge int, ramp [api.Gauges]int) api.Range {
	value, most := before.Values[gauge], ramp[gauge]*(at-before.At)
	return api.Range{Low: value - most, High: value + most}
}

// watch is a run, and the puller that watches whether it keeps its rules.
type watch struct {
	api.Puller
	growth
	end  int
	stop int // when the run is stopped, or -1
}

// rule reports whether a setting, or a phase, breaks a rule, by its number, and
// with which gauge.
type rule func(at int) (gauge int, broken bool)

// round is rules that are looked at together, for one setting, or phase, after
// another.
type round struct {
	first, last api.PullRule
	over        api.Range // the numbers of the settings, or phases
}

func (w watch) phase(at int) (gauge int, broken bool) {
	now := w.growth[at].Phase
	if at == 0 {
		return 0, now != api.PhaseSeed
	}
	before := w.growth[at-1].Phase
	return 0, now != before && now != before+1
}

func (w watch) bounds(at int) (gauge int, broken bool) {
	x := w.growth[at]
	for gauge, r := range w.asked(x.Phase).Bounds {
		if !contains(r, x.Values[gauge]) {
			return gauge, true
		}
	}
	return 0, false
}

func (w watch) ramp(at int) (gauge int, broken bool) {
	if at == 0 {
		return 0, false
	}
	x, before := w.growth[at], w.growth[at-1].PullSetting
	for gauge, value := range x.Values {
		if !contains(reach(before, x.At, gauge, w.asked(x.Phase).Ramp), value) {
			return gauge, true
		}
	}
	return 0, false
}

func (w watch) seconds(at int) (gauge int, broken bool) {
	x := api.Phase(at)
	t, ok := w.lasts(x)
	return 0, ok && w.strays(t.High-t.Low, w.asked(x).Seconds, t.High)
}

func (w watch) length(at int) (gauge int, broken bool) {
	x := api.Phase(at)
	t, ok := w.lasts(x)
	return 0, ok && w.strays(w.place(t.High)-w.place(t.Low), w.asked(x).Length, t.High)
}

func (w watch) stopped(at int) (gauge int, broken bool) {
	x := w.growth[at]
	return 0, w.stop >= 0 && x.Values[api.PullRate] != 0 && x.until > w.stop+w.Grace
}

// asked returns what a phase asks for.
func (w watch) asked(x api.Phase) api.PhaseRule { return w.Rules[x-api.PhaseSeed] }

// lasts returns from when until when a phase lasts. It is not ok if it has no
// settings; otherwise they follow one another, as no other rule is looked at
// before RulePhase.
func (w watch) lasts(x api.Phase) (t api.Range, ok bool) {
	for _, p := range w.growth {
		if p.Phase != x {
			continue
		}
		if !ok {
			t.Low, ok = p.At, true
		}
		t.High = p.until
	}
	return t, ok
}

// strays reports whether a phase that ends then has too much of something, or
// too little. The last phase may have too little, as the run ends within it.
func (w watch) strays(n int, limits api.Range, until int) bool {
	return n > limits.High || n < limits.Low && until < w.end
}

// breach returns the first breach, or one with the rule 0.
func (w watch) breach() api.PullBreach {
	rules := [...]rule{
		api.RulePhase: w.phase, api.RuleBounds: w.bounds, api.RuleRamp: w.ramp,
		api.RuleSeconds: w.seconds, api.RuleLength: w.length,
		api.RuleStopped: w.stopped,
	}
	settings := api.Range{Low: 0, High: len(w.growth) - 1}
	phases := api.Range{Low: int(api.PhaseSeed), High: int(api.PhaseTail)}
	for _, x := range [...]round{
		{api.RulePhase, api.RuleRamp, settings},
		{api.RuleSeconds, api.RuleLength, phases},
		{api.RuleStopped, api.RuleStopped, settings},
	} {
		for at := x.over.Low; at <= x.over.High; at++ {
			for number := x.first; number <= x.last; number++ {
				if gauge, broken := rules[number](at); broken {
					return api.PullBreach{Rule: number, At: at, Gauge: gauge}
				}
			}
		}
	}
	return api.PullBreach{}
}

// Obeys returns the first rule that a run breaks.
func Obeys(p api.Puller, r api.PullRun) (api.PullBreach, api.Errno) {
	if e := check.First(validPuller(p), validRun(r)); e != api.OK {
		return api.PullBreach{}, e
	}
	stop, _ := stopped(p, r)
	return watch{p, pieces(r), r.End, stop}.breach(), api.OK
}
