package pull

import (
	"boule/api"
	"boule/check"
)

// stretches returns the stretches of time from an event that begins one to the
// next event that ends it, or to the end of the run, in ascending order.
func stretches(r api.PullRun, begins, ends api.Happening) []api.Range {
	var l []api.Range
	inside := false
	for _, x := range r.Events {
		switch {
		case x.Kind == begins && !inside:
			l = append(l, api.Range{Low: x.At, High: r.End})
			inside = true
		case x.Kind == ends && inside:
			l[len(l)-1].High = x.At
			inside = false
		}
	}
	return l
}

// stopped returns when a run is stopped, and by what, or -1 and 0.
func stopped(p api.Puller, r api.PullRun) (at int, kind api.Happening) {
	at = -1
	stop := func(t int, by api.Happening) {
		if at < 0 || t < at {
			at, kind = t, by
		}
	}
	// A lost structure comes first: of equal times its own one counts.
	for _, x := range r.Events {
		if x.Kind == api.LostStructure {
			stop(x.At, x.Kind)
		}
	}
	for _, off := range stretches(r, api.PowerOff, api.PowerOn) {
		if off.High-off.Low > p.Hold {
			stop(off.Low+p.Hold, api.PowerOff)
		}
	}
	return at, kind
}

// Stop returns when a run is stopped, and by what.
func Stop(p api.Puller, r api.PullRun) (at int, kind api.Happening, e api.Errno) {
	if e := check.First(validPuller(p), validRun(r)); e != api.OK {
		return 0, 0, e
	}
	at, kind = stopped(p, r)
	return at, kind, api.OK
}
