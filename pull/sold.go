package pull

import (
	"slices"

	"boule/api"
	"boule/check"
)

// lasting returns whether one of some stretches of time lasts all through a second.
func lasting(times ...api.Range) func(k int) bool {
	return func(k int) bool {
		return slices.ContainsFunc(times, func(x api.Range) bool { return x.Low <= k && k+1 <= x.High })
	}
}

// unspoiled returns up to which place what is grown may be sold. What is grown
// after a stop is never below that place, so that the seconds after it need not
// be looked at.
func unspoiled(p api.Puller, r api.PullRun, g growth) int {
	if stop, _ := stopped(p, r); stop >= 0 {
		return g.place(stop) - p.Slip
	}
	return g.place(r.End)
}

// Sold returns the stretches of the body that may be sold.
func Sold(p api.Puller, r api.PullRun) ([]api.Range, api.Errno) {
	if e := check.First(validPuller(p), validRun(r), sighted(p, r)); e != api.OK {
		return nil, e
	}
	g, accepted := pieces(r), accepting(p, r)
	leaks := lasting(stretches(r, api.LeakOpen, api.LeakShut)...)
	dark := lasting(stretches(r, api.PowerOff, api.PowerOn)...)
	top := unspoiled(p, r, g)
	good := func(k int) bool {
		return g.holding(k).Phase == api.PhaseBody && !leaks(k) && !dark(k) && accepted(k)
	}
	var l []api.Range
	for _, x := range runs(r.End, good) {
		from, to := g.place(x.Low), min(g.place(x.High+1), top)
		if from < to {
			l = append(l, api.Range{Low: from, High: to})
		}
	}
	return l, api.OK
}
