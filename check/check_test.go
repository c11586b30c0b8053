package check_test

import (
	"math"
	"slices"
	"testing"

	"boule/api"
	"boule/check"
)

// R1: the error that is named first, and nothing behind it is asked.
func TestFirst(t *testing.T) {
	var asked []api.Errno
	ask := func(e api.Errno, holds bool) check.Condition {
		return check.Unless(e, func() bool {
			asked = append(asked, e)
			return holds
		})
	}
	if e := check.First(ask(api.ErrArg, true), ask(api.ErrRange, false), ask(api.ErrNone, false)); e != api.ErrRange || !slices.Equal(asked, []api.Errno{api.ErrArg, api.ErrRange}) {
		t.Error(e, asked)
	}
	if e := check.First(ask(api.ErrArg, true), ask(api.ErrRange, true)); e != api.OK {
		t.Error(e)
	}
	if e := check.First(); e != api.OK {
		t.Error(e)
	}
}

// R7: a limit is allowed.
func TestAtMost(t *testing.T) {
	for length, want := range []api.Errno{api.OK, api.OK, api.OK, api.ErrLong} {
		if e := check.First(check.AtMost(2, length)); e != want {
			t.Error(length, e)
		}
	}
}

// R1: the first element with an error decides.
func TestEach(t *testing.T) {
	var seen []string
	look := check.Each([]string{"a", "bb", "c", "dd"}, func(i int, x string) api.Errno {
		seen = append(seen, x)
		if len(x) == 1 {
			return api.OK
		}
		return api.Errno(i)
	})
	if e := check.First(look); e != 1 || !slices.Equal(seen, []string{"a", "bb"}) {
		t.Error(e, seen)
	}
	if e := check.First(check.Each(nil, func(int, string) api.Errno { return api.ErrArg })); e != api.OK {
		t.Error(e)
	}
}

// R7: both limits are allowed.
func TestAreRanges(t *testing.T) {
	good := []api.Range{{}, {Low: 5, High: 5}, {Low: 0, High: 5}, {Low: 2, High: 3}}
	if !check.AreRanges(5, good...) || !check.AreRanges(5) {
		t.Error("valid ranges")
	}
	for _, bad := range []api.Range{{Low: -1, High: 2}, {Low: 3, High: 2}, {Low: 2, High: 6}, {Low: math.MinInt, High: math.MaxInt}, {Low: math.MaxInt, High: math.MinInt}} {
		if check.AreRanges(5, append(slices.Clone(good), bad)...) {
			t.Error(bad)
		}
	}
}

// Both ends of what is wanted are wanted.
func TestGrade(t *testing.T) {
	for _, c := range []struct {
		wanted api.Range
		want   api.Grade
	}{
		{api.Range{Low: 3, High: 5}, api.Surely},
		{api.Range{Low: 2, High: 6}, api.Surely},
		{api.Range{Low: math.MinInt, High: math.MaxInt}, api.Surely},
		{api.Range{Low: 4, High: 5}, api.Possibly},
		{api.Range{Low: 3, High: 4}, api.Possibly},
		{api.Range{Low: 4, High: 4}, api.Possibly},
		{api.Range{Low: 0, High: 3}, api.Possibly},
		{api.Range{Low: 5, High: 9}, api.Possibly},
		{api.Range{Low: 0, High: 2}, api.Never},
		{api.Range{Low: 6, High: 9}, api.Never},
		{api.Range{Low: 5, High: 3}, api.Never},
		{api.Range{Low: 5, High: 4}, api.Never},
		{api.Range{Low: math.MaxInt, High: math.MinInt}, api.Never},
	} {
		if g := check.Grade(api.Range{Low: 3, High: 5}, c.wanted); g != c.want {
			t.Error(c, g)
		}
	}
}
