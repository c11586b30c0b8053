package pull_test

import (
	"math"
	"math/rand"
	"slices"
	"testing"

	"boule/api"
	"boule/pull"
)

// hostile are integers at and around all limits.
var hostile = []int{
	math.MinInt, -api.MaxGauge, -1, 0, 1, 2, 5, 100000, 100001, 1000000, 1000001,
	10000000000, 10000000001, api.MaxNumber, math.MaxInt,
}

func span(low, high int) api.Range { return api.Range{Low: low, High: high} }

func at(t int, phase api.Phase, rate int) api.PullSetting {
	return api.PullSetting{At: t, Phase: phase, Values: [api.Gauges]int{rate}}
}

func seen(t, low, high int) api.Sample { return api.Sample{At: t, Seen: span(low, high)} }

func event(t int, kind api.Happening) api.Happened { return api.Happened{At: t, Kind: kind} }

// soft returns a puller that lets everything through.
func soft() api.Puller {
	p := api.Puller{Grow: 2, Shrink: 1, Limits: span(0, 1000000)}
	for i := range p.Rules {
		r := &p.Rules[i]
		r.Seconds, r.Length = span(0, 100000), span(0, 10000000000)
		for g := range r.Bounds {
			r.Bounds[g], r.Ramp[g] = span(0, 1000000), 1000000
		}
	}
	return p
}

// two returns the run of the document's first example.
func two() api.PullRun {
	return api.PullRun{Settings: []api.PullSetting{at(0, api.PhaseBody, 20), at(100, api.PhaseBody, 10)}, End: 200}
}

// body returns a run that is all body, with these samples.
func body(end int, samples ...api.Sample) api.PullRun {
	return api.PullRun{Settings: []api.PullSetting{at(0, api.PhaseBody, 10)}, End: end, Samples: samples}
}

// dice returns the same numbers in every run.
func dice() *rand.Rand { return rand.New(rand.NewSource(1)) }

// anyRange returns a range from 0 to most, often a single number.
func anyRange(r *rand.Rand, most int) api.Range {
	low := r.Intn(most + 1)
	if r.Intn(3) == 0 {
		return span(low, low)
	}
	return span(low, low+r.Intn(most+1-low))
}

// anyTimes returns at most so many different times from 0 to last, in ascending order.
func anyTimes(r *rand.Rand, most, last int) []int {
	var l []int
	for range r.Intn(most + 1) {
		l = append(l, r.Intn(last+1))
	}
	slices.Sort(l)
	return slices.Compact(l)
}

// anySettings returns settings before an end, whose phases mostly follow each other.
func anySettings(r *rand.Rand, most, end, rate int) []api.PullSetting {
	phase := api.PhaseSeed
	if r.Intn(10) == 0 {
		phase++
	}
	l := []api.PullSetting{at(0, phase, r.Intn(rate+1))}
	for _, t := range anyTimes(r, most-1, end-1) {
		if t == 0 {
			continue
		}
		if phase < api.PhaseTail && r.Intn(2) == 0 {
			phase++
		}
		l = append(l, at(t, phase, r.Intn(rate+1)))
		l[len(l)-1].Values[api.Heat] = r.Intn(4)
	}
	return l
}

// anyEvents returns events up to an end, of which some come at the same time.
func anyEvents(r *rand.Rand, most, end int) []api.Happened {
	var l []api.Happened
	for _, t := range anyTimes(r, most/2, end) {
		for range 1 + r.Intn(2) {
			kind := api.LeakOpen + api.Happening(r.Intn(4))
			if r.Intn(12) == 0 {
				kind = api.LostStructure
			}
			l = append(l, event(t, kind))
		}
	}
	return l
}

// anySamples returns samples up to an end.
func anySamples(r *rand.Rand, most, end, wide int) []api.Sample {
	var l []api.Sample
	for _, t := range anyTimes(r, most, end) {
		l = append(l, api.Sample{At: t, Seen: anyRange(r, wide)})
	}
	return l
}

// sighted returns samples that a course, which it makes up, meets.
func sighted(r *rand.Rand, p api.Puller, most, end, wide int) []api.Sample {
	var l []api.Sample
	now, before := r.Intn(wide+1), 0
	for _, t := range anyTimes(r, most, end) {
		now += r.Intn((p.Grow+p.Shrink)*(t-before)+1) - p.Shrink*(t-before)
		now = min(max(now, 0), wide)
		before = t
		l = append(l, seen(t, max(0, now-r.Intn(3)), min(wide, now+r.Intn(3))))
	}
	return l
}

// rateAt returns the pull rate in the second after a time.
func rateAt(r api.PullRun, k int) int { return r.Settings[settingAt(r, k)].Values[0] }

// settingAt returns the number of the setting that holds in the second after a time.
func settingAt(r api.PullRun, k int) int {
	n := 0
	for i, s := range r.Settings {
		if s.At <= k {
			n = i
		}
	}
	return n
}

// plainPlace counts second by second.
func plainPlace(r api.PullRun, t int) int {
	sum := 0
	for k := range t {
		sum += rateAt(r, k)
	}
	return sum
}

// grown returns what Grown returns for a run and times that are valid.
func grown(t *testing.T, r api.PullRun, from, to int) int {
	t.Helper()
	n, e := pull.Grown(r, from, to)
	if e != api.OK {
		t.Fatal("Grown", r, from, to, e)
	}
	return n
}

// inside reports whether a range lies in another one.
func inside(a, b api.Range) bool { return b.Low <= a.Low && a.High <= b.High }

// covers reports whether every number of some ranges is in one of others.
func covers(outer, inner []api.Range) bool {
	for _, x := range inner {
		if !slices.ContainsFunc(outer, func(y api.Range) bool { return inside(x, y) }) {
			return false
		}
	}
	return true
}

// plainRuns returns the runs of the seconds for which something is true.
func plainRuns(l []bool) []api.Range {
	var all []api.Range
	for k := 0; k < len(l); k++ {
		if !l[k] {
			continue
		}
		first := k
		for k+1 < len(l) && l[k+1] {
			k++
		}
		all = append(all, span(first, k))
	}
	return all
}

// paths are the diameters that courses have, moment by moment: a second is cut
// into n moments and a micrometre into n parts, so that the diameter grows by
// at most Grow parts from one moment to the next one, and shrinks by at most
// Shrink parts. No envelope of a course has a corner at another moment.
type paths struct {
	n  int
	in []map[int]bool // by the moment: the diameters
}

// follow goes from moment to moment, in one of both directions of time, and
// keeps the diameters that can be reached from the moment before.
func (x paths) follow(moments []int, least, most int) {
	for i, m := range moments[1:] {
		before, now := x.in[moments[i]], x.in[m]
		for v := range now {
			reached := false
			for d := least; d <= most && !reached; d++ {
				reached = before[v-d]
			}
			if !reached {
				delete(now, v)
			}
		}
	}
}

// plainPaths goes through all courses whose diameters are from low to high.
func plainPaths(p api.Puller, r api.PullRun, low, high int) paths {
	x := paths{n: max(1, p.Grow+p.Shrink)}
	var moments []int
	for m := range x.n*r.End + 1 {
		moments = append(moments, m)
		now := map[int]bool{}
		for v := low * x.n; v <= high*x.n; v++ {
			now[v] = true
		}
		for _, y := range r.Samples {
			if y.At*x.n != m {
				continue
			}
			for v := range now {
				if v < y.Seen.Low*x.n || v > y.Seen.High*x.n {
					delete(now, v)
				}
			}
		}
		x.in = append(x.in, now)
	}
	x.follow(moments, -p.Shrink, p.Grow)
	slices.Reverse(moments)
	x.follow(moments, -p.Grow, p.Shrink)
	return x
}

// none reports whether there is no course.
func (x paths) none() bool { return len(x.in[0]) == 0 }

// hull returns the least range of whole micrometres that has all diameters from a second to another one.
func (x paths) hull(from, to int) api.Range {
	low, high := math.MaxInt, math.MinInt
	for m := from * x.n; m <= to*x.n; m++ {
		for v := range x.in[m] {
			low, high = min(low, v), max(high, v)
		}
	}
	down := func(n int) int { return int(math.Floor(float64(n) / float64(x.n))) }
	return span(down(low), -down(-high))
}

// smallRun returns a puller and a run that are so small that all courses can be
// gone through, with the least and the greatest diameter of any of them.
func smallRun(r *rand.Rand) (p api.Puller, run api.PullRun, low, high int) {
	const wide = 8
	p = soft()
	p.Grow, p.Shrink = r.Intn(4), r.Intn(4)
	run = body(1 + r.Intn(5))
	if r.Intn(2) == 0 {
		run.Samples = anySamples(r, 4, run.End, wide)
	} else {
		run.Samples = sighted(r, p, 4, run.End, wide)
	}
	far := run.End * max(p.Grow, p.Shrink)
	return p, run, -far, wide + far
}
