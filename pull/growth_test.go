package pull_test

import (
	"math"
	"testing"

	"boule/api"
	"boule/pull"
)

// P4.2, and example 1.
func TestGrown(t *testing.T) {
	for _, c := range []struct {
		from, to, want int
		e              api.Errno
	}{
		{0, 0, 0, api.OK},
		{0, 100, 2000, api.OK},
		{0, 200, 3000, api.OK},
		{99, 101, 30, api.OK},
		{100, 101, 10, api.OK},
		{200, 200, 0, api.OK},
		{51, 50, 0, api.ErrRange},
		{0, 201, 0, api.ErrRange},
		{201, 201, 0, api.ErrRange},
		{-1, 5, 0, api.ErrRange},
		{-1, -1, 0, api.ErrRange},
		{math.MinInt, math.MaxInt, 0, api.ErrRange},
	} {
		if n, e := pull.Grown(two(), c.from, c.to); n != c.want || e != c.e {
			t.Error(c, n, e)
		}
	}
}

// P4.2, and example 1.
func TestReached(t *testing.T) {
	still := two()
	still.Settings[0].Values[0] = 0
	long := body(100000)
	long.Settings[0].Values[0] = 1000000
	for _, c := range []struct {
		name         string
		r            api.PullRun
		length, want int
		e            api.Errno
	}{
		{"nothing", two(), 0, 0, api.OK},
		{"a micrometre", two(), 1, 1, api.OK},
		{"a second", two(), 20, 1, api.OK},
		{"more than a second", two(), 21, 2, api.OK},
		{"the first setting", two(), 2000, 100, api.OK},
		{"the second one", two(), 2001, 101, api.OK},
		{"a second of it", two(), 2010, 101, api.OK},
		{"all of it", two(), 3000, 200, api.OK},
		{"more than all", two(), 3001, 0, api.ErrNone},
		{"nothing of nothing", still, 0, 0, api.OK},
		{"after nothing", still, 1, 101, api.OK},
		{"the greatest length", long, 100000000000, 100000, api.OK},
		{"the most that may be asked", two(), 100000000000, 0, api.ErrNone},
		{"more than may be asked", long, 100000000001, 0, api.ErrRange},
		{"less than nothing", two(), -1, 0, api.ErrRange},
		{"the least integer", two(), math.MinInt, 0, api.ErrRange},
	} {
		if n, e := pull.Reached(c.r, c.length); n != c.want || e != c.e {
			t.Error(c.name, n, e)
		}
	}
}

// P4.2: all seconds and all lengths of small runs.
func TestLengthsSecondBySecond(t *testing.T) {
	r := dice()
	for range 200 {
		run := api.PullRun{End: 1 + r.Intn(12)}
		run.Settings = anySettings(r, 5, run.End, 3)
		for to := range run.End + 1 {
			for from := range to + 1 {
				if n, want := grown(t, run, from, to), plainPlace(run, to)-plainPlace(run, from); n != want {
					t.Fatal("Grown", run, from, to, n, want)
				}
			}
		}
		for length := range plainPlace(run, run.End) + 2 {
			want, e := 0, api.OK
			for want <= run.End && plainPlace(run, want) < length {
				want++
			}
			if want > run.End {
				want, e = 0, api.ErrNone
			}
			if n, f := pull.Reached(run, length); n != want || f != e {
				t.Fatal("Reached", run, length, n, f, want, e)
			}
		}
	}
}

// P4.14: lengths add up, and a length that is grown is reached by then.
func TestLengthsAddUp(t *testing.T) {
	r := dice()
	for range 500 {
		run := api.PullRun{End: 100000 - r.Intn(1000)}
		run.Settings = anySettings(r, 60, run.End, 1000000)
		first := r.Intn(run.End + 1)
		second := first + r.Intn(run.End+1-first)
		third := second + r.Intn(run.End+1-second)
		if grown(t, run, first, second)+grown(t, run, second, third) != grown(t, run, first, third) {
			t.Fatal("Grown", run, first, second, third)
		}
		n, e := pull.Reached(run, grown(t, run, 0, second))
		if e != api.OK || n > second || grown(t, run, 0, n) != grown(t, run, 0, second) {
			t.Fatal("Reached", run, second, n, e)
		}
	}
}
