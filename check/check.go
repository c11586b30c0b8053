// Package check finds the first of several errors, and holds what several layers ask of ranges.
package check

import "boule/api"

// Condition returns the error of something that must hold, or OK. It is asked
// only when all conditions before it hold, so that it may rely on them.
type Condition func() api.Errno

// First returns the error of the first condition that does not hold.
func First(conditions ...Condition) api.Errno {
	for _, c := range conditions {
		if e := c(); e != api.OK {
			return e
		}
	}
	return api.OK
}

// Unless demands that something holds.
func Unless(e api.Errno, holds func() bool) Condition {
	return func() api.Errno {
		if holds() {
			return api.OK
		}
		return e
	}
}

// AtMost demands that a list has at most so many elements.
func AtMost(most, length int) Condition {
	return Unless(api.ErrLong, func() bool { return length <= most })
}

// Each demands something of one element of a list after another.
func Each[T any](l []T, demand func(i int, x T) api.Errno) Condition {
	return func() api.Errno {
		for i, x := range l {
			if e := demand(i, x); e != api.OK {
				return e
			}
		}
		return api.OK
	}
}

// AreRanges reports whether all ranges lie between 0 and most.
func AreRanges(most int, ranges ...api.Range) bool {
	for _, r := range ranges {
		if r.Low < 0 || r.Low > r.High || r.High > most {
			return false
		}
	}
	return true
}

// Grade says whether a number that can be all numbers of a range lies in another
// one, which has no numbers if Low is above High.
func Grade(known, wanted api.Range) api.Grade {
	switch {
	case wanted.Low <= known.Low && known.High <= wanted.High:
		return api.Surely
	case max(wanted.Low, known.Low) <= min(wanted.High, known.High):
		return api.Possibly
	}
	return api.Never
}
