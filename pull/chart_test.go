package pull_test

import (
	"math/rand"
	"slices"
	"testing"

	"boule/api"
	"boule/pull"
)

// diameter returns what Diameter returns for a run that has a course.
func diameter(t *testing.T, p api.Puller, r api.PullRun, at int) api.Range {
	t.Helper()
	x, e := pull.Diameter(p, r, at)
	if e != api.OK {
		t.Fatal("Diameter", p, r, at, e)
	}
	return x
}

// between returns what Between returns for a run that has a course.
func between(t *testing.T, p api.Puller, r api.PullRun, at int) api.Range {
	t.Helper()
	x, e := pull.Between(p, r, at)
	if e != api.OK {
		t.Fatal("Between", p, r, at, e)
	}
	return x
}

// accepted returns what Accepted returns for a run that has a course.
func accepted(t *testing.T, p api.Puller, r api.PullRun) []api.Range {
	t.Helper()
	l, e := pull.Accepted(p, r)
	if e != api.OK {
		t.Fatal("Accepted", p, r, e)
	}
	return l
}

// changes returns a puller with this Grow and Shrink.
func changes(grow, shrink int) api.Puller {
	p := soft()
	p.Grow, p.Shrink = grow, shrink
	return p
}

// P4.5.
func TestConflict(t *testing.T) {
	for _, c := range []struct {
		name          string
		p             api.Puller
		r             api.PullRun
		first, second int
	}{
		{"no samples", changes(2, 1), body(6), -1, -1},
		{"one sample", changes(0, 0), body(6, seen(3, 5, 5)), -1, -1},
		{"as fast as it grows", changes(2, 1), body(6, seen(1, 10, 20), seen(4, 26, 30)), -1, -1},
		{"faster than it grows", changes(2, 1), body(6, seen(1, 10, 20), seen(4, 27, 30)), 0, 1},
		{"as fast as it shrinks", changes(2, 1), body(6, seen(1, 10, 20), seen(4, 5, 7)), -1, -1},
		{"faster than it shrinks", changes(2, 1), body(6, seen(1, 10, 20), seen(4, 5, 6)), 0, 1},
		{"it does not change", changes(0, 0), body(6, seen(0, 10, 20), seen(6, 20, 30)), -1, -1},
		{"it can not change", changes(0, 0), body(6, seen(0, 10, 20), seen(6, 21, 30)), 0, 1},
		{"not the one in between", changes(2, 1), body(6, seen(0, 100, 100), seen(2, 90, 110), seen(4, 95, 95)), 0, 2},
		{"the smallest second one", changes(2, 1), body(6, seen(0, 100, 100), seen(1, 90, 110), seen(3, 109, 109), seen(5, 90, 90)), 0, 2},
		{"the smallest first one", changes(1, 1), body(6, seen(0, 50, 60), seen(1, 50, 50), seen(2, 50, 60), seen(3, 70, 70)), 0, 3},
		{"the smallest first one of the two", changes(1, 1), body(6, seen(0, 50, 80), seen(1, 50, 50), seen(2, 50, 60), seen(3, 70, 70)), 1, 3},
		{"all along", changes(1000000, 1000000), body(100000, seen(0, 0, 0), seen(1, 1000000, 1000000), seen(100000, 0, 0)), -1, -1},
		{"a micrometre too fast", changes(999999, 1000000), body(100000, seen(0, 0, 0), seen(1, 1000000, 1000000), seen(100000, 0, 0)), 0, 1},
	} {
		if i, j, e := pull.Conflict(c.p, c.r); i != c.first || j != c.second || e != api.OK {
			t.Error(c.name, i, j, e)
		}
	}
}

// P4.6, and examples 2 and 4.
func TestDiameterAndBetween(t *testing.T) {
	example := body(6, seen(0, 100, 100), seen(6, 100, 100))
	for _, c := range []struct {
		name        string
		p           api.Puller
		r           api.PullRun
		at          int
		in, through api.Range
	}{
		{"the first sample", changes(2, 1), example, 0, span(100, 100), span(99, 102)},
		{"example 2", changes(2, 1), example, 1, span(99, 102), span(98, 104)},
		{"its greatest diameter", changes(2, 1), example, 2, span(98, 104), span(97, 104)},
		{"its limits", changes(2, 1), example, 3, span(97, 103), span(96, 103)},
		{"its least diameter", changes(2, 1), example, 4, span(96, 102), span(96, 102)},
		{"before the last sample", changes(2, 1), example, 5, span(98, 101), span(98, 101)},
		{"half a micrometre", changes(1, 1), body(6, seen(0, 100, 100), seen(1, 100, 100)), 0, span(100, 100), span(99, 101)},
		{"a third of one", changes(2, 1), body(6, seen(0, 100, 100), seen(1, 100, 100)), 0, span(100, 100), span(99, 101)},
		{"two thirds and a third", changes(1, 2), body(6, seen(0, 100, 100), seen(1, 99, 100)), 0, span(100, 100), span(98, 101)},
		{"a whole one", changes(3, 6), body(6, seen(0, 100, 100), seen(1, 100, 100)), 0, span(100, 100), span(98, 102)},
		{"only up", changes(5, 0), body(6, seen(0, 100, 100), seen(1, 103, 103)), 0, span(100, 100), span(100, 103)},
		{"only down", changes(0, 5), body(6, seen(0, 100, 100), seen(1, 97, 97)), 0, span(100, 100), span(97, 100)},
		{"neither up nor down", changes(0, 0), body(6, seen(0, 100, 110), seen(6, 105, 120)), 3, span(105, 110), span(105, 110)},
		{"behind the last sample", changes(1, 1), body(6, seen(0, 100, 100), seen(1, 100, 100)), 3, span(98, 102), span(97, 103)},
		{"ahead of the first sample", changes(2, 1), body(6, seen(3, 100, 101)), 1, span(96, 103), span(96, 103)},
		{"in the sample", changes(2, 1), body(6, seen(3, 100, 101)), 3, span(100, 101), span(99, 103)},
		{"a sample that others narrow", changes(2, 1), body(6, seen(1, 100, 100), seen(3, 0, 500), seen(5, 101, 101)), 3, span(98, 103), span(97, 103)},
		{"a sample behind the next one", changes(1, 1), body(6, seen(0, 100, 100), seen(2, 0, 500), seen(3, 100, 100)), 1, span(99, 101), span(98, 102)},
		{"a sample before the last one", changes(1, 1), body(6, seen(0, 100, 100), seen(1, 0, 500), seen(3, 100, 100)), 1, span(99, 101), span(98, 102)},
		{"below 0", changes(2, 3), body(6, seen(0, 1, 1)), 4, span(-11, 9), span(-14, 11)},
		{"as far as it can be", changes(1000000, 1000000), body(100000, seen(0, 0, 1000000)), 99999, span(-99999000000, 100000000000), span(-100000000000, 100001000000)},
		{"as far before", changes(1000000, 0), body(100000, seen(100000, 0, 1000000)), 0, span(-100000000000, 1000000), span(-100000000000, 1000000)},
	} {
		if x := diameter(t, c.p, c.r, c.at); x != c.in {
			t.Error(c.name, "Diameter", x)
		}
		if x := between(t, c.p, c.r, c.at); x != c.through {
			t.Error(c.name, "Between", x)
		}
	}
	if x := diameter(t, changes(2, 1), example, 6); x != span(100, 100) {
		t.Error("the end", x)
	}
	if x := diameter(t, changes(2, 1), body(6, seen(3, 100, 101)), 6); x != span(97, 107) {
		t.Error("the end behind a sample", x)
	}
}

// P4.5, P4.6: all courses of small runs.
func TestAllCourses(t *testing.T) {
	r := dice()
	found := map[bool]int{}
	for range 400 {
		p, run, low, high := smallRun(r)
		x := plainPaths(p, run, low, high)
		first, second, e := pull.Conflict(p, run)
		if i, j := plainConflict(p, run, low, high); first != i || second != j || e != api.OK || x.none() != (i >= 0) {
			t.Fatal("Conflict", p.Grow, p.Shrink, run, first, second, e, i, j)
		}
		found[x.none()]++
		if x.none() || len(run.Samples) == 0 {
			continue
		}
		for k := range run.End + 1 {
			if y, want := diameter(t, p, run, k), x.hull(k, k); y != want {
				t.Fatal("Diameter", p.Grow, p.Shrink, run, k, y, want)
			}
			if k == run.End {
				continue
			}
			if y, want := between(t, p, run, k), x.hull(k, k+1); y != want {
				t.Fatal("Between", p.Grow, p.Shrink, run, k, y, want)
			}
		}
	}
	if found[true] < 20 || found[false] < 100 {
		t.Error("runs without and with a course", found)
	}
}

// plainConflict goes through all courses that meet two samples.
func plainConflict(p api.Puller, r api.PullRun, low, high int) (first, second int) {
	for j := range r.Samples {
		for i := range j {
			pair := body(r.End, r.Samples[i], r.Samples[j])
			if plainPaths(p, pair, low, high).none() {
				return i, j
			}
		}
	}
	return -1, -1
}

// P4.7, and example 3.
func TestAccepted(t *testing.T) {
	example := body(6, seen(0, 100, 100), seen(6, 100, 100))
	for _, c := range []struct {
		name   string
		limits api.Range
		p      api.Puller
		r      api.PullRun
		want   []api.Range
	}{
		{"example 3", span(97, 104), changes(2, 1), example, []api.Range{span(0, 2), span(5, 5)}},
		{"all of it", span(96, 104), changes(2, 1), example, []api.Range{span(0, 5)}},
		{"too wide at the peak", span(96, 103), changes(2, 1), example, []api.Range{span(0, 0), span(3, 5)}},
		{"nothing of it", span(100, 100), changes(2, 1), example, nil},
		{"limits beside it", span(0, 99), changes(2, 1), example, nil},
		{"a half above its limits", span(99, 100), changes(1, 1), body(2, seen(0, 100, 100), seen(1, 100, 100)), nil},
		{"a half below its limits", span(100, 101), changes(1, 1), body(2, seen(0, 100, 100), seen(1, 100, 100)), nil},
		{"a half within its limits", span(99, 101), changes(1, 1), body(2, seen(0, 100, 100), seen(1, 100, 100)), []api.Range{span(0, 1)}},
		{"before a sample, and behind it", span(98, 102), changes(1, 1), body(9, seen(4, 100, 100)), []api.Range{span(2, 5)}},
		{"no samples", span(0, 1000000), changes(0, 0), body(6), nil},
		{"it may be below 0", span(0, 1000000), changes(0, 1), body(6, seen(0, 3, 3)), []api.Range{span(0, 2)}},
		{"it does not change", span(100, 100), changes(0, 0), body(100000, seen(50000, 100, 100)), []api.Range{span(0, 99999)}},
	} {
		c.p.Limits = c.limits
		if l := accepted(t, c.p, c.r); !slices.Equal(l, c.want) {
			t.Error(c.name, l)
		}
	}
}

// withinLimits returns which seconds are accepted, as far as Between tells.
func withinLimits(t *testing.T, p api.Puller, r api.PullRun) []bool {
	t.Helper()
	l := make([]bool, r.End)
	for k := range l {
		l[k] = len(r.Samples) > 0 && inside(between(t, p, r, k), p.Limits)
	}
	return l
}

// P4.7: all courses of small runs.
func TestAcceptedOfAllCourses(t *testing.T) {
	r := dice()
	some := 0
	for range 300 {
		p, run, low, high := smallRun(r)
		p.Limits = span(r.Intn(3), 6+r.Intn(6))
		x := plainPaths(p, run, low, high)
		if x.none() {
			continue
		}
		in := make([]bool, run.End)
		for k := range in {
			in[k] = len(run.Samples) > 0 && inside(x.hull(k, k+1), p.Limits)
		}
		want := plainRuns(in)
		if l := accepted(t, p, run); !slices.Equal(l, want) {
			t.Fatal(p, run, l, want)
		}
		some += len(want)
	}
	if some < 50 {
		t.Error("only", some, "runs of accepted seconds")
	}
}

// greatRun returns a puller and a run with a course, and with great numbers.
func greatRun(r *rand.Rand) (api.Puller, api.PullRun) {
	p := changes(r.Intn(1000), r.Intn(1000))
	end := 1 + r.Intn(1000)
	return p, body(end, sighted(r, p, 100, end, 1000000)...)
}

// withSample returns a run with a sample more, which replaces one at the same second.
func withSample(r api.PullRun, x api.Sample) api.PullRun {
	l := slices.DeleteFunc(slices.Clone(r.Samples), func(y api.Sample) bool { return x.At == y.At })
	i := 0
	for i < len(l) && l[i].At < x.At {
		i++
	}
	r.Samples = slices.Insert(l, i, x)
	return r
}

// P4.11: both ends of Diameter are reached by courses, and no number beside them is.
func TestEndsAreReached(t *testing.T) {
	r := dice()
	reached := 0
	for range 1000 {
		p, run := greatRun(r)
		if len(run.Samples) == 0 {
			continue
		}
		k := r.Intn(run.End + 1)
		x := diameter(t, p, run, k)
		for _, c := range []struct {
			n  int
			ok bool
		}{{x.Low, true}, {x.High, true}, {x.Low - 1, false}, {x.High + 1, false}} {
			if c.n < 0 || c.n > 1000000 || !c.ok && slices.ContainsFunc(run.Samples, func(y api.Sample) bool { return y.At == k }) {
				continue
			}
			i, _, e := pull.Conflict(p, withSample(run, seen(k, c.n, c.n)))
			if e != api.OK || c.ok != (i < 0) {
				t.Fatal(p.Grow, p.Shrink, run, k, x, c, i, e)
			}
			reached++
		}
	}
	if reached < 1000 {
		t.Error("only", reached, "ends")
	}
}

// P4.6: the bounds of all samples, at all moments at which two of them can meet.
func TestBetweenOfGreatRuns(t *testing.T) {
	r := dice()
	for range 500 {
		p, run := greatRun(r)
		if len(run.Samples) == 0 {
			continue
		}
		k, n := r.Intn(run.End), max(1, p.Grow+p.Shrink)
		if i := r.Intn(len(run.Samples)); r.Intn(2) == 0 && run.Samples[i].At < run.End {
			k = run.Samples[i].At
		}
		x := between(t, p, run, k)
		least, most := 1<<62, -1<<62
		for m := k * n; m <= (k+1)*n; m++ {
			low, high := -1<<62, 1<<62
			for _, y := range run.Samples {
				up, down := p.Grow, p.Shrink
				if y.At*n > m {
					up, down = down, up
				}
				moments := max(m-y.At*n, y.At*n-m)
				low, high = max(low, y.Seen.Low*n-down*moments), min(high, y.Seen.High*n+up*moments)
			}
			least, most = min(least, low), max(most, high)
		}
		// Rounded outwards, and not more than that.
		if x.Low*n > least || (x.Low+1)*n <= least || x.High*n < most || (x.High-1)*n >= most {
			t.Fatal(p.Grow, p.Shrink, run, k, x, least, most, n)
		}
	}
}

// P4.11, T3: a true diameter is in what is told of it, and within the limits in
// the seconds that are accepted.
func TestTrueDiameter(t *testing.T) {
	r := dice()
	some := 0
	for range 300 {
		p := changes(2*r.Intn(50), 2*r.Intn(50))
		run := body(1 + r.Intn(60))
		// The diameter at every half of a second.
		d := []int{500000}
		for range 2 * run.End {
			d = append(d, d[len(d)-1]+r.Intn(p.Grow/2+p.Shrink/2+1)-p.Shrink/2)
		}
		for _, k := range anyTimes(r, 15, run.End) {
			run.Samples = append(run.Samples, seen(k, d[2*k]-r.Intn(9), d[2*k]+r.Intn(9)))
		}
		p.Limits = span(500000-r.Intn(400), 500000+r.Intn(400))
		if len(run.Samples) == 0 {
			continue
		}
		for k := range run.End {
			x, y := diameter(t, p, run, k), between(t, p, run, k)
			if !inside(span(d[2*k], d[2*k]), x) || !inside(span(min(d[2*k], d[2*k+1], d[2*k+2]), max(d[2*k], d[2*k+1], d[2*k+2])), y) || !inside(x, y) {
				t.Fatal(p, run, k, d, x, y)
			}
		}
		for _, x := range accepted(t, p, run) {
			for _, n := range d[2*x.Low : 2*x.High+3] {
				if !inside(span(n, n), p.Limits) {
					t.Fatal(p, run, d, x, n)
				}
			}
			some++
		}
	}
	if some < 50 {
		t.Error("only", some, "runs of accepted seconds")
	}
}

// P4.11: with a sample more, and with less Grow or Shrink, no range is wider and
// no second is accepted less.
func TestWhatIsKnownBetter(t *testing.T) {
	r := dice()
	compared := 0
	for range 400 {
		p, run := greatRun(r)
		if len(run.Samples) == 0 {
			continue
		}
		low := r.Intn(1000001)
		p.Limits = span(low, low+r.Intn(1000001-low))
		better, more := p, run
		switch r.Intn(3) {
		case 0:
			k := r.Intn(run.End + 1)
			if slices.ContainsFunc(run.Samples, func(y api.Sample) bool { return y.At == k }) {
				continue
			}
			x := diameter(t, p, run, k)
			x.Low, x.High = max(0, x.Low-r.Intn(5)), min(1000000, x.High-r.Intn(x.High-x.Low+1))
			if x.Low > x.High {
				continue
			}
			more = withSample(run, api.Sample{At: k, Seen: x})
		case 1:
			better.Grow = r.Intn(p.Grow + 1)
		default:
			better.Shrink = r.Intn(p.Shrink + 1)
		}
		if i, _, _ := pull.Conflict(better, more); i >= 0 || len(more.Samples) > 100 {
			continue
		}
		compared++
		for k := range run.End {
			if !inside(diameter(t, better, more, k), diameter(t, p, run, k)) || !inside(between(t, better, more, k), between(t, p, run, k)) {
				t.Fatal(p, run, better, more, k)
			}
		}
		if !covers(accepted(t, better, more), accepted(t, p, run)) {
			t.Fatal("Accepted", p, run, better, more)
		}
	}
	if compared < 100 {
		t.Error("only", compared, "runs")
	}
}
