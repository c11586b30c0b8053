package pull_test

import (
	"math"
	"math/big"
	"math/rand"
	"testing"

	"boule/api"
	"boule/pull"
)

// P4.9, and example 7.
func TestSeen(t *testing.T) {
	camera := api.Optics{Scale: span(2000000, 2000000), InnerGap: span(20, 40), OuterGap: span(8000, 8030)}
	plain := api.Optics{Scale: span(1000000, 1000000)}
	const most = 10000000000
	for _, c := range []struct {
		name         string
		o            api.Optics
		inner, outer api.Range
		want         api.Range
		e            api.Errno
	}{
		{"example 7", camera, span(100000, 100010), span(104000, 104000), span(199970, 200000), api.OK},
		{"the inner edge says it", camera, span(100000, 100010), span(0, 1000000), span(199960, 200000), api.OK},
		{"the outer edge says it", camera, span(0, 1000000), span(104000, 104010), span(199970, 200020), api.OK},
		{"they touch", camera, span(100000, 100000), span(103990, 103990), span(199960, 199980), api.OK},
		{"they meet in a point", camera, span(100000, 100000), span(103995, 103995), span(199960, 199980), api.OK},
		{"the same number", plain, span(7, 7), span(7, 7), span(7, 7), api.OK},
		{"one number", plain, span(5, 7), span(7, 9), span(7, 7), api.OK},
		{"nothing in common", plain, span(5, 7), span(8, 9), api.Range{}, api.ErrSight},
		{"nothing in common the other way", plain, span(8, 9), span(5, 7), api.Range{}, api.ErrSight},
		{"rounded outwards", api.Optics{Scale: span(333333, 333334)}, span(10, 11), span(10, 12), span(3, 4), api.OK},
		{"below 0", api.Optics{Scale: span(1000000, 1000000), InnerGap: span(5, 9), OuterGap: span(5, 8)}, span(1, 2), span(1, 2), span(-7, -3), api.OK},
		{"all zero", api.Optics{}, span(0, 0), span(0, 0), span(0, 0), api.OK},
		{"all at their limits", api.Optics{Scale: span(most, most), InnerGap: span(most, most), OuterGap: span(0, most)}, span(most, most), span(most, most), span(99990000000000, 99990000000000), api.OK},
		{"as wide as can be", api.Optics{Scale: span(0, most), InnerGap: span(0, most), OuterGap: span(0, most)}, span(0, most), span(0, most), span(-10000000000, 100000000000000), api.OK},
	} {
		if x, e := pull.Seen(c.o, api.Ring{Inner: c.inner, Outer: c.outer}); x != c.want || e != c.e {
			t.Error(c.name, x, e)
		}
	}
}

// P4.9: each of the five ranges.
func TestSeenErrors(t *testing.T) {
	for _, bad := range []api.Range{span(-1, 5), span(5, 4), span(0, 10000000001), span(10000000001, 10000000001), span(math.MinInt, math.MaxInt), span(math.MaxInt, math.MinInt)} {
		for i := range 5 {
			// The edges have nothing in common.
			l := [5]api.Range{span(1000000, 1000000), span(1, 1), span(2, 2), span(7, 7), span(90, 90)}
			l[i] = bad
			if x, e := pull.Seen(api.Optics{Scale: l[0], InnerGap: l[1], OuterGap: l[2]}, api.Ring{Inner: l[3], Outer: l[4]}); x != (api.Range{}) || e != api.ErrArg {
				t.Error(i, bad, x, e)
			}
		}
	}
}

// steered returns a puller, gains and a setting with which the rate can change by 2 in a second.
func steered() (api.Puller, api.Gains, api.PullSetting) {
	p := soft()
	p.Limits = span(100, 104)
	for i := range p.Rules {
		p.Rules[i].Bounds[api.PullRate], p.Rules[i].Ramp[api.PullRate] = span(5, 30), 2
	}
	g := api.Gains{Rate: api.Frac{Num: 1, Den: 2}, Heat: api.Frac{Num: -3, Den: 1}}
	return p, g, api.PullSetting{At: 10, Phase: api.PhaseBody, Values: [api.Gauges]int{20, 50, 7, 8, 9, 10}}
}

// P4.10.
func TestSteer(t *testing.T) {
	for _, c := range []struct {
		name       string
		at         int
		seen       api.Range
		rate, heat int
	}{
		{"as it is wanted", 12, span(102, 102), 20, 50},
		{"as it is wanted on both sides", 12, span(52, 152), 20, 50},
		{"5 too wide, to the even number below", 12, span(106, 108), 22, 35},
		{"7 too wide, to the even number above", 12, span(106, 112), 24, 29},
		{"5 too narrow, to the even number above", 12, span(96, 98), 18, 65},
		{"a half too wide", 12, span(102, 103), 20, 48},
		{"one and a half too wide", 12, span(103, 104), 21, 46},
		{"a half too narrow", 12, span(101, 102), 20, 52},
		{"two in a second", 11, span(112, 112), 22, 20},
		{"two in a second down", 11, span(92, 92), 18, 80},
		{"six in three seconds", 13, span(62, 62), 14, 170},
		{"no more than its bounds", 90, span(200, 200), 30, 0},
		{"no less than its bounds", 90, span(0, 0), 5, 356},
		{"the last second", 100000, span(1000000, 1000000), 30, 0},
	} {
		p, g, before := steered()
		want := api.PullSetting{At: c.at, Phase: api.PhaseBody, Values: [api.Gauges]int{c.rate, c.heat, 7, 8, 9, 10}}
		if s, e := pull.Steer(p, g, before, c.at, c.seen); s != want || e != api.OK {
			t.Error(c.name, s, e)
		}
	}
}

// P4.10: values that the setting before has, and that its phase does not allow.
func TestSteerToTheBounds(t *testing.T) {
	for _, c := range []struct {
		name          string
		gauge, value  int
		bounds        api.Range
		ramp, seconds int
		want          int
		e             api.Errno
	}{
		{"too far below", 0, 1, span(5, 30), 2, 1, 0, api.ErrNone},
		{"from below", 0, 1, span(5, 30), 2, 2, 5, api.OK},
		{"too far above", 0, 36, span(5, 30), 2, 2, 0, api.ErrNone},
		{"from above", 0, 36, span(5, 30), 2, 3, 30, api.OK},
		{"another gauge, too far", 5, 50, span(0, 9), 10, 4, 0, api.ErrNone},
		{"another gauge", 5, 50, span(0, 10), 10, 4, 10, api.OK},
		{"it can not change", 3, 50, span(51, 60), 0, 99, 0, api.ErrNone},
		{"it need not change", 3, 50, span(50, 60), 0, 99, 50, api.OK},
	} {
		p, g, before := steered()
		before.Values[c.gauge] = c.value
		p.Rules[3].Bounds[c.gauge], p.Rules[3].Ramp[c.gauge] = c.bounds, c.ramp
		s, e := pull.Steer(p, g, before, before.At+c.seconds, span(102, 102))
		want := before
		want.At, want.Values[c.gauge] = before.At+c.seconds, c.want
		if c.e != api.OK {
			want = api.PullSetting{}
		}
		if s != want || e != c.e {
			t.Error(c.name, s, e)
		}
	}
}

// P4.10: invalid arguments, in the order of their errors.
func TestSteerErrors(t *testing.T) {
	type arguments struct {
		p      api.Puller
		g      api.Gains
		before api.PullSetting
		at     int
		seen   api.Range
	}
	for _, c := range []struct {
		name   string
		change func(a *arguments)
		want   api.Errno
	}{
		{"a puller", func(a *arguments) { a.p.Slip = -1 }, api.ErrArg},
		{"another phase of the puller", func(a *arguments) { a.p.Rules[0].Ramp[5] = -1 }, api.ErrArg},
		{"a time before all", func(a *arguments) { a.before.At = -1 }, api.ErrArg},
		{"a time behind all", func(a *arguments) { a.before.At, a.at = 100001, 100002 }, api.ErrArg},
		{"the phase 0", func(a *arguments) { a.before.Phase = 0 }, api.ErrArg},
		{"the phase 6", func(a *arguments) { a.before.Phase = 6 }, api.ErrArg},
		{"a phase far away", func(a *arguments) { a.before.Phase = math.MinInt }, api.ErrArg},
		{"a low value", func(a *arguments) { a.before.Values[5] = -1 }, api.ErrArg},
		{"a high value", func(a *arguments) { a.before.Values[2] = 1000001 }, api.ErrArg},
		{"the least rate", func(a *arguments) { a.g.Rate.Num = -1000000 }, api.OK},
		{"a rate below it", func(a *arguments) { a.g.Rate.Num = -1000001 }, api.ErrArg},
		{"the greatest heat", func(a *arguments) { a.g.Heat.Num = 1000000 }, api.OK},
		{"a heat above it", func(a *arguments) { a.g.Heat.Num = 1000001 }, api.ErrArg},
		{"the greatest Den", func(a *arguments) { a.g.Rate.Den, a.g.Heat.Den = 1000000, 1000000 }, api.OK},
		{"a Den above it", func(a *arguments) { a.g.Heat.Den = 1000001 }, api.ErrArg},
		{"no fraction", func(a *arguments) { a.g.Rate.Den = 0 }, api.ErrArg},
		{"a Den below 0", func(a *arguments) { a.g.Heat.Den = -1 }, api.ErrArg},
		{"the least Den", func(a *arguments) { a.g.Rate.Den = 1 }, api.OK},
		{"no time later", func(a *arguments) { a.at = 10 }, api.ErrRange},
		{"an earlier time", func(a *arguments) { a.at = 9 }, api.ErrRange},
		{"a time far away", func(a *arguments) { a.at = math.MinInt }, api.ErrRange},
		{"behind the last second", func(a *arguments) { a.at = 100001 }, api.ErrRange},
		{"after the last second", func(a *arguments) { a.before.At, a.at = 100000, 100001 }, api.ErrRange},
		{"the last second", func(a *arguments) { a.before.At, a.at = 99999, 100000 }, api.OK},
		{"seen below 0", func(a *arguments) { a.seen.Low = -1 }, api.ErrRange},
		{"nothing seen", func(a *arguments) { a.seen = span(103, 102) }, api.ErrRange},
		{"seen too wide", func(a *arguments) { a.seen.High = 1000001 }, api.ErrRange},
		{"an argument before a time", func(a *arguments) { a.g.Heat.Den, a.at = 0, -1 }, api.ErrArg},
		{"a setting before what is seen", func(a *arguments) { a.before.Phase, a.seen = 0, span(-1, 0) }, api.ErrArg},
		{"a time before the bounds", func(a *arguments) { a.at, a.before.Values[0] = 10, 1 }, api.ErrRange},
		{"the bounds", func(a *arguments) { a.before.Values[0] = 1 }, api.ErrNone},
	} {
		var a arguments
		a.p, a.g, a.before = steered()
		a.at, a.seen = 11, span(102, 102)
		c.change(&a)
		s, e := pull.Steer(a.p, a.g, a.before, a.at, a.seen)
		if e != c.want || e != api.OK && s != (api.PullSetting{}) {
			t.Error(c.name, s, e)
		}
	}
}

// near returns n / d, to the nearest integer, of two as near ones the even one.
func near(n, d int) int {
	x, rest := new(big.Int).DivMod(big.NewInt(int64(n)), big.NewInt(int64(d)), new(big.Int))
	q := int(x.Int64())
	if c := rest.Lsh(rest, 1).Cmp(big.NewInt(int64(d))); c > 0 || c == 0 && q%2 != 0 {
		q++
	}
	return q
}

// plainValue tries all values that a gauge can have, and keeps the one nearest to what is wanted.
func plainValue(bounds api.Range, before, change, wanted int) (best int, ok bool) {
	for n := bounds.Low; n <= bounds.High; n++ {
		if max(n-before, before-n) > change {
			continue
		}
		if !ok || max(n-wanted, wanted-n) < max(best-wanted, wanted-best) {
			best, ok = n, true
		}
	}
	return best, ok
}

func anyFrac(r *rand.Rand, most int) api.Frac {
	return api.Frac{Num: r.Intn(2*most+1) - most, Den: 1 + r.Intn(most)}
}

// anySteering returns a puller, gains and a setting with small numbers.
func anySteering(r *rand.Rand) (api.Puller, api.Gains, api.PullSetting) {
	p := soft()
	p.Limits = anyRange(r, 60)
	for i := range p.Rules {
		for g := range p.Rules[i].Bounds {
			p.Rules[i].Bounds[g], p.Rules[i].Ramp[g] = anyRange(r, 40), r.Intn(5)
		}
	}
	before := api.PullSetting{At: r.Intn(50), Phase: api.Phase(1 + r.Intn(5))}
	for g := range before.Values {
		x := p.Rules[before.Phase-1].Bounds[g]
		before.Values[g] = x.Low + r.Intn(x.High-x.Low+1)
		if r.Intn(10) == 0 {
			before.Values[g] = r.Intn(50)
		}
	}
	return p, api.Gains{Rate: anyFrac(r, 5), Heat: anyFrac(r, 5)}, before
}

// P4.10: any numbers.
func TestSteerAnything(t *testing.T) {
	r := dice()
	errors := 0
	for range 5000 {
		p, g, before := anySteering(r)
		at, x := before.At+1+r.Intn(6), anyRange(r, 60)
		twice := x.Low + x.High - p.Limits.Low - p.Limits.High
		want, e := api.PullSetting{At: at, Phase: before.Phase}, api.OK
		for gauge, v := range before.Values {
			wanted := v
			switch gauge {
			case api.PullRate:
				wanted += near(twice*g.Rate.Num, 2*g.Rate.Den)
			case api.Heat:
				wanted += near(twice*g.Heat.Num, 2*g.Heat.Den)
			}
			rule := p.Rules[before.Phase-1]
			n, ok := plainValue(rule.Bounds[gauge], v, rule.Ramp[gauge]*(at-before.At), wanted)
			if !ok {
				want, e = api.PullSetting{}, api.ErrNone
				errors++
				break
			}
			want.Values[gauge] = n
		}
		if s, f := pull.Steer(p, g, before, at, x); s != want || f != e {
			t.Fatal(p, g, before, at, x, s, f, want, e)
		}
	}
	if errors < 100 || errors > 4000 {
		t.Error(errors, "settings that can not be steered")
	}
}

// P4.10: the greatest products.
func TestSteerGreatNumbers(t *testing.T) {
	p, before := soft(), api.PullSetting{Phase: api.PhaseSeed}
	p.Limits = span(0, 0)
	g := api.Gains{Rate: api.Frac{Num: 1000000, Den: 999999}, Heat: api.Frac{Num: 1000000, Den: 1}}
	s, e := pull.Steer(p, g, before, 100000, span(499999, 500000))
	// 999999 / 2 * 1000000 / 999999 is 500000.
	if e != api.OK || s.Values != [api.Gauges]int{500000, 1000000} {
		t.Error(s, e)
	}
	p.Limits, before.Values[0] = span(1000000, 1000000), 1000000
	s, e = pull.Steer(p, g, before, 100000, span(499999, 500000))
	// -1000001 / 2 * 1000000 / 999999 is -500001 and a little.
	if e != api.OK || s.Values != [api.Gauges]int{499999, 0} {
		t.Error(s, e)
	}
}

// P4.13: a run that is steered breaks neither RuleBounds nor RuleRamp.
func TestSteeredRun(t *testing.T) {
	r := dice()
	for range 1000 {
		p, g, s := anySteering(r)
		s.At = 0
		for gauge, x := range p.Rules[s.Phase-1].Bounds {
			s.Values[gauge] = min(max(s.Values[gauge], x.Low), x.High)
		}
		run := api.PullRun{Settings: []api.PullSetting{s}, End: 400}
		for range 59 {
			before := run.Settings[len(run.Settings)-1]
			next, e := pull.Steer(p, g, before, before.At+1+r.Intn(6), anyRange(r, 60))
			if e != api.OK {
				t.Fatal("Steer", p, g, before, e)
			}
			run.Settings = append(run.Settings, next)
		}
		// All of it is of one phase; in the seed nothing else is looked at first.
		p.Rules[0] = p.Rules[s.Phase-1]
		for i := range run.Settings {
			run.Settings[i].Phase = api.PhaseSeed
		}
		if b, e := pull.Obeys(p, run); e != api.OK || b != (api.PullBreach{}) {
			t.Fatal("Obeys", p, run, b, e)
		}
	}
}

// P4.13: a wider crystal is pulled no more slowly, if Rate is not below 0.
func TestWiderIsNotSlower(t *testing.T) {
	r := dice()
	faster := 0
	for range 3000 {
		p, g, before := anySteering(r)
		g.Rate.Num = max(g.Rate.Num, -g.Rate.Num)
		at, x := before.At+1+r.Intn(6), anyRange(r, 60)
		wider := span(x.Low+r.Intn(9), x.High+9)
		s, e := pull.Steer(p, g, before, at, x)
		w, f := pull.Steer(p, g, before, at, wider)
		if e != f || w.Values[api.PullRate] < s.Values[api.PullRate] {
			t.Fatal(p, g, before, at, x, wider, s, w, e, f)
		}
		if w.Values[api.PullRate] > s.Values[api.PullRate] {
			faster++
		}
	}
	if faster < 100 {
		t.Error("only", faster, "settings are faster")
	}
}
