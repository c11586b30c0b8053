package pull

import (
	"sort"

	"boule/api"
	"boule/check"
)

// piece is a piece of time: a setting, and until when it holds.
type piece struct {
	api.PullSetting
	until int
}

// growth is the pieces of time of a run, one after another.
type growth []piece

// pieces returns the pieces of time of a run.
func pieces(r api.PullRun) growth {
	g := make(growth, len(r.Settings))
	for i, s := range r.Settings {
		g[i] = piece{s, r.End}
		if i > 0 {
			g[i-1].until = s.At
		}
	}
	return g
}

// place returns what is grown from the time 0 to t.
func (g growth) place(t int) int {
	sum := 0
	for _, x := range g {
		if t > x.At {
			sum += x.Values[api.PullRate] * (min(t, x.until) - x.At)
		}
	}
	return sum
}

// holding returns the piece of time in which the second k lies.
func (g growth) holding(k int) piece {
	return g[sort.Search(len(g), func(i int) bool { return g[i].until > k })]
}

// Grown returns how many micrometres are grown from one second to another one.
func Grown(r api.PullRun, from, to int) (int, api.Errno) {
	e := check.First(
		validRun(r),
		check.Unless(api.ErrRange, func() bool { return 0 <= from && from <= to && to <= r.End }),
	)
	if e != api.OK {
		return 0, e
	}
	g := pieces(r)
	return g.place(to) - g.place(from), api.OK
}

// Reached returns the first second by which a length is grown.
func Reached(r api.PullRun, length int) (int, api.Errno) {
	e := check.First(
		validRun(r),
		check.Unless(api.ErrRange, func() bool { return upTo(api.MaxPulled*10, length) }),
	)
	if e != api.OK {
		return 0, e
	}
	g := pieces(r)
	t := sort.Search(r.End+1, func(t int) bool { return g.place(t) >= length })
	if t > r.End {
		return 0, api.ErrNone
	}
	return t, api.OK
}
