package pull

import (
	"slices"
	"sort"

	"boule/api"
	"boule/check"
	"boule/units"
)

// chart is what is known of the diameter of a run that has a course: by how
// much it changes at most in a second, and in which range it is at the start,
// at each sample and at the end, by all samples together. So at other times it
// depends on the two that are known around it, and on no others.
type chart struct {
	grow, shrink int
	known        []api.Sample
}

// both returns the numbers that two ranges have.
func both(a, b api.Range) api.Range {
	return api.Range{Low: max(a.Low, b.Low), High: min(a.High, b.High)}
}

// newChart returns the chart of a run.
func newChart(p api.Puller, r api.PullRun) chart {
	// So wide that any sample, from whenever it is, makes it narrower.
	open := api.Range{Low: -api.MaxNumber, High: api.MaxNumber}
	c := chart{p.Grow, p.Shrink, slices.Clone(r.Samples)}
	if len(c.known) == 0 || c.known[0].At > 0 {
		c.known = slices.Insert(c.known, 0, api.Sample{At: 0, Seen: open})
	}
	if c.known[len(c.known)-1].At < r.End {
		c.known = append(c.known, api.Sample{At: r.End, Seen: open})
	}
	c.narrow()
	return c
}

// narrow narrows what is known by what was known before, and then by what is
// known afterwards.
func (c chart) narrow() {
	l := c.known
	for i := 1; i < len(l); i++ {
		l[i].Seen = both(l[i].Seen, c.later(l[i-1].Seen, l[i].At-l[i-1].At))
	}
	for i := len(l) - 2; i >= 0; i-- {
		l[i].Seen = both(l[i].Seen, c.earlier(l[i+1].Seen, l[i+1].At-l[i].At))
	}
}

// later returns in which range the diameter is some seconds later.
func (c chart) later(r api.Range, seconds int) api.Range {
	return api.Range{Low: r.Low - c.shrink*seconds, High: r.High + c.grow*seconds}
}

// earlier returns in which range the diameter was some seconds earlier.
func (c chart) earlier(r api.Range, seconds int) api.Range {
	return api.Range{Low: r.Low - c.grow*seconds, High: r.High + c.shrink*seconds}
}

// around returns in which range the diameter is at a second by what is known
// up to then, and by what is known afterwards: at the end, by what is known
// there.
func (c chart) around(k int) (past, future api.Range) {
	i := sort.Search(len(c.known)-2, func(i int) bool { return c.known[i+1].At > k })
	from, to := c.known[i], c.known[i+1]
	return c.later(from.Seen, k-from.At), c.earlier(to.Seen, to.At-k)
}

// at returns the range of the diameter at a second.
func (c chart) at(k int) api.Range { return both(c.around(k)) }

// between returns the range of the diameter from a second to the next one.
func (c chart) between(k int) api.Range {
	past, future := c.around(k)
	return api.Range{
		// What is least is the opposite of what is greatest in the mirror.
		Low:  -peak(-past.Low, c.shrink, -future.Low, c.grow),
		High: peak(past.High, c.grow, future.High, c.shrink),
	}
}

// peak returns the greatest number that the lesser of two lines has within a
// second, rounded up: the one begins with a and grows by up in it, the other
// one begins with b and shrinks by down.
func peak(a, up, b, down int) int {
	switch {
	case b <= a:
		return b
	case a+up <= b-down:
		return a + up
	}
	n, _, _ := units.MulDiv(up, b-a, up+down, api.Up)
	return a + n
}

// conflict returns the numbers of two samples that contradict each other, or -1 and -1.
func conflict(p api.Puller, r api.PullRun) (first, second int) {
	for j, y := range r.Samples {
		for i, x := range r.Samples[:j] {
			seconds := y.At - x.At
			if y.Seen.Low-x.Seen.High > p.Grow*seconds || x.Seen.Low-y.Seen.High > p.Shrink*seconds {
				return i, j
			}
		}
	}
	return -1, -1
}

// sighted demands that a run has a course.
func sighted(p api.Puller, r api.PullRun) check.Condition {
	return check.Unless(api.ErrSight, func() bool {
		first, _ := conflict(p, r)
		return first < 0
	})
}

// runs returns the runs of the seconds up to the end for which something holds,
// each as long as possible.
func runs(end int, holds func(k int) bool) []api.Range {
	var l []api.Range
	for k := range end {
		switch {
		case !holds(k):
		case len(l) > 0 && l[len(l)-1].High == k-1:
			l[len(l)-1].High = k
		default:
			l = append(l, api.Range{Low: k, High: k})
		}
	}
	return l
}

// ask asks a chart about a second, which is from 0 to last.
func ask(p api.Puller, r api.PullRun, at, last int, question func(chart, int) api.Range) (api.Range, api.Errno) {
	e := check.First(
		validPuller(p),
		validRun(r),
		check.Unless(api.ErrRange, func() bool { return upTo(last, at) }),
		check.Unless(api.ErrNone, func() bool { return len(r.Samples) > 0 }),
		sighted(p, r),
	)
	if e != api.OK {
		return api.Range{}, e
	}
	return question(newChart(p, r), at), api.OK
}

// Conflict returns two samples that contradict each other.
func Conflict(p api.Puller, r api.PullRun) (first, second int, e api.Errno) {
	if e := check.First(validPuller(p), validRun(r)); e != api.OK {
		return 0, 0, e
	}
	first, second = conflict(p, r)
	return first, second, api.OK
}

// Diameter returns between which numbers the diameter is in a second.
func Diameter(p api.Puller, r api.PullRun, at int) (api.Range, api.Errno) {
	return ask(p, r, at, r.End, chart.at)
}

// Between returns between which numbers the diameter is from a second to the next one.
func Between(p api.Puller, r api.PullRun, at int) (api.Range, api.Errno) {
	return ask(p, r, at, r.End-1, chart.between)
}

// accepting returns whether a second is accepted. Without samples none is, as
// the diameter may then be anything.
func accepting(p api.Puller, r api.PullRun) func(k int) bool {
	c := newChart(p, r)
	return func(k int) bool {
		x := c.between(k)
		return p.Limits.Low <= x.Low && x.High <= p.Limits.High
	}
}

// Accepted returns the runs of seconds in which the diameter is within its limits all along.
func Accepted(p api.Puller, r api.PullRun) ([]api.Range, api.Errno) {
	if e := check.First(validPuller(p), validRun(r), sighted(p, r)); e != api.OK {
		return nil, e
	}
	return runs(r.End, accepting(p, r)), api.OK
}
