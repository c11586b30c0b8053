package defect_test

import (
	"math"
	"math/rand"
	"slices"
	"testing"

	"boule/api"
	"boule/defect"
)

// heat returns a step with the same speeds in all regions.
func heat(dissolved, low, high int) api.HeatStep {
	s := api.HeatStep{Dissolved: dissolved}
	for k := range s.Speeds {
		s.Speeds[k] = span(low, high)
	}
	return s
}

// heats returns a list of steps.
func heats(l ...api.HeatStep) []api.HeatStep { return l }

// P5.8, and example 5.
func TestAnneal(t *testing.T) {
	half, mixed := heat(40, 5000, 5000), heat(40, 5000, 5000)
	mixed.Speeds[api.Vacancy] = span(8000, 10000)
	mixed.Speeds[api.QuietInner] = span(0, 1000)
	// What is fast in the one step is slow in the next one.
	turns := heats(heat(0, 0, 0), heat(0, 0, 0))
	turns[0].Speeds[api.Interstitial], turns[1].Speeds[api.RingFaults] = at(10000), at(10000)
	for _, c := range []struct {
		name         string
		l            []api.HeatStep
		oxygen       api.Range
		can          api.RegionSet
		left, fallen api.Range
	}{
		{"example 5", heats(half), at(100), every, at(70), at(30)},
		{"example 5, 100 to 101", heats(half), span(100, 101), every, span(70, 71), span(30, 31)},
		{"half of what is odd", heats(half), at(101), every, span(70, 71), span(30, 31)},
		{"some speeds", heats(heat(40, 2500, 5000)), at(100), interstitial, span(70, 85), span(15, 30)},
		{"all of it", heats(heat(0, 10000, 10000)), span(7, 100), ring, at(0), span(7, 100)},
		{"nothing of it", heats(heat(0, 0, 0)), span(7, 100), ring, span(7, 100), at(0)},
		{"anything of it", heats(heat(0, 0, 10000)), span(7, 100), ring, span(0, 100), span(0, 100)},
		{"as much as is dissolved", heats(heat(100, 5000, 5000)), at(100), outer, at(100), at(0)},
		{"a unit more", heats(heat(100, 5000, 5000)), at(101), outer, span(100, 101), span(0, 1)},
		{"a unit more, a little", heats(heat(100, 1, 1)), at(101), outer, span(100, 101), span(0, 1)},
		{"less than is dissolved", heats(heat(200, 5000, 5000)), span(100, 110), inner, span(100, 110), at(0)},
		{"around what is dissolved", heats(heat(105, 10000, 10000)), span(100, 110), inner, span(100, 105), span(0, 5)},
		{"two steps", heats(half, heat(60, 10000, 10000)), at(100), interstitial, at(60), at(40)},
		{"two steps, the first one falls below", heats(half, heat(80, 10000, 10000)), at(100), interstitial, at(70), at(30)},
		{"two steps, rounded twice", heats(heat(0, 5000, 5000), heat(0, 5000, 5000)), at(7), interstitial, span(1, 2), span(5, 6)},
		{"no steps", nil, span(5, 9), outer, span(5, 9), at(0)},
		{"no oxygen", heats(half), at(0), every, at(0), at(0)},
		{"one region", heats(mixed), at(100), vacancy, span(40, 52), span(48, 60)},
		{"another region", heats(mixed), at(100), inner, span(94, 100), span(0, 6)},
		{"two regions", heats(mixed), at(100), interstitial | vacancy, span(40, 70), span(30, 60)},
		{"all regions", heats(mixed), at(100), every, span(40, 100), span(0, 60)},
		{"the region stays the same", turns, at(100), interstitial | ring, at(0), at(100)},
		{"the region stays the same in three", turns, at(100), interstitial | inner, span(0, 100), span(0, 100)},
		{"the greatest numbers", slices.Repeat(heats(heat(0, 10000, 10000)), 30), span(0, 1000000), every, at(0), span(0, 1000000)},
		{"the greatest numbers kept", slices.Repeat(heats(heat(1000000, 10000, 10000)), 30), at(1000000), every, at(1000000), at(0)},
	} {
		left, fallen, e := defect.Anneal(c.l, c.oxygen, c.can)
		if left != c.left || fallen != c.fallen || e != api.OK {
			t.Error(c.name, left, fallen, e)
		}
	}
}

// P5.8: errors, and their order.
func TestAnnealErrors(t *testing.T) {
	good := slices.Repeat(heats(heat(0, 0, 10000)), 30)
	for _, c := range []struct {
		name   string
		l      []api.HeatStep
		oxygen api.Range
		can    api.RegionSet
		want   api.Errno
	}{
		{"30 steps", good, at(5), every, api.OK},
		{"31 steps", append(good, heat(0, 0, 0)), at(5), every, api.ErrLong},
		{"31 steps, and nothing is valid", append(good, heat(-1, 0, 0)), span(9, 5), 32, api.ErrLong},
		{"31 steps and no region", append(good, heat(0, 0, 0)), at(5), 0, api.ErrLong},
		{"no region", good, at(5), 0, api.ErrNone},
		{"no region and no step", nil, at(5), 0, api.ErrNone},
		{"no region and a bad step", heats(heat(-1, 0, 0)), at(5), 0, api.ErrArg},
		{"no region and bad oxygen", nil, at(-1), 0, api.ErrArg},
		{"a set that is not valid", good, at(5), 32, api.ErrArg},
		{"a set that is not valid", nil, at(5), 255, api.ErrArg},
		{"a set that has more", nil, at(5), 64 | quiet, api.ErrArg},
	} {
		wantAnneal(t, c.name, c.l, c.oxygen, c.can, c.want)
	}
	for _, bad := range badRanges {
		wantAnneal(t, "oxygen", good, bad, every, api.ErrArg)
	}
	for _, bad := range []int{-1, 1000001, math.MinInt, math.MaxInt} {
		wantAnneal(t, "dissolved", heats(heat(0, 0, 0), heat(bad, 0, 0)), at(5), every, api.ErrArg)
	}
	for _, bad := range append(badRanges, span(0, 10001), at(10001)) {
		for k := range 5 {
			l := heats(heat(40, 0, 10000), heat(40, 0, 10000))
			l[1].Speeds[k] = bad
			// Also the speeds of regions that the place can not be in.
			wantAnneal(t, "speeds", l, at(5), inner, api.ErrArg)
		}
	}
}

func wantAnneal(t *testing.T, name string, l []api.HeatStep, oxygen api.Range, can api.RegionSet, want api.Errno) {
	t.Helper()
	left, fallen, e := defect.Anneal(l, oxygen, can)
	if e != want || e != api.OK && (left != api.Range{} || fallen != api.Range{}) {
		t.Error(name, l, oxygen, can, left, fallen, e)
	}
}

// amounts are how much is left, and how much has fallen out so far.
type amounts struct {
	left, fallen int
}

// plainAnneal goes through all courses.
func plainAnneal(l []api.HeatStep, oxygen api.Range, can api.RegionSet) map[amounts]bool {
	all := map[amounts]bool{}
	for k := range 5 {
		if can>>k&1 == 0 {
			continue
		}
		now := map[amounts]bool{}
		for n := oxygen.Low; n <= oxygen.High; n++ {
			now[amounts{left: n}] = true
		}
		for _, s := range l {
			next := map[amounts]bool{}
			for a := range now {
				excess := max(0, a.left-s.Dissolved)
				for n := down(excess*s.Speeds[k].Low, 10000); n <= up(excess*s.Speeds[k].High, 10000); n++ {
					next[amounts{a.left - n, a.fallen + n}] = true
				}
			}
			now = next
		}
		for a := range now {
			all[a] = true
		}
	}
	return all
}

// anySteps returns steps in which so much stays dissolved at the most.
func anySteps(r *rand.Rand, n, dissolved int) []api.HeatStep {
	var l []api.HeatStep
	for range n {
		s := api.HeatStep{Dissolved: r.Intn(dissolved + 1)}
		for k := range s.Speeds {
			s.Speeds[k] = anyRange(r, 0, 10000)
		}
		l = append(l, s)
	}
	return l
}

// P5.8, P5.11, T1, T2: all courses lie in the ranges, and reach their ends.
func TestAnnealAgainstAllCourses(t *testing.T) {
	r := dice()
	for range 2000 {
		l, oxygen := anySteps(r, r.Intn(4), 20), anyRange(r, 0, 30)
		can := api.RegionSet(1 + r.Intn(every))
		wantLeft, wantFallen := span(math.MaxInt, math.MinInt), span(math.MaxInt, math.MinInt)
		for a := range plainAnneal(l, oxygen, can) {
			if n := a.left + a.fallen; n < oxygen.Low || n > oxygen.High {
				t.Fatal("not what there was", l, oxygen, a)
			}
			wantLeft = span(min(wantLeft.Low, a.left), max(wantLeft.High, a.left))
			wantFallen = span(min(wantFallen.Low, a.fallen), max(wantFallen.High, a.fallen))
		}
		if left, fallen := anneal(t, l, oxygen, can); left != wantLeft || fallen != wantFallen {
			t.Fatal(l, oxygen, can, left, fallen, wantLeft, wantFallen)
		}
	}
}

// P5.11: a course of great numbers lies in the ranges.
func TestCoursesOfGreatNumbers(t *testing.T) {
	r := dice()
	for range 2000 {
		l, oxygen := anySteps(r, r.Intn(31), 1000000), anyRange(r, 0, 1000000)
		can := api.RegionSet(1 + r.Intn(every))
		left, fallen := anneal(t, l, oxygen, can)
		for k := range 5 {
			if can>>k&1 == 0 {
				continue
			}
			first := narrow(r, oxygen).Low
			now := first
			for _, s := range l {
				excess := max(0, now-s.Dissolved)
				now -= narrow(r, span(down(excess*s.Speeds[k].Low, 10000), up(excess*s.Speeds[k].High, 10000))).Low
			}
			if !inside(at(now), left) || !inside(at(first-now), fallen) {
				t.Fatal(l, oxygen, k, now, first-now, left, fallen)
			}
		}
	}
}

// P5.11: with more steps no more is left, and no less has fallen out.
func TestMoreSteps(t *testing.T) {
	r := dice()
	for i := range 2000 {
		most := 50
		if i%2 == 0 {
			most = 1000000
		}
		l, oxygen := anySteps(r, r.Intn(6), most), anyRange(r, 0, most)
		can := api.RegionSet(1 + r.Intn(every))
		more := slices.Insert(slices.Clone(l), r.Intn(len(l)+1), anySteps(r, 1, most)...)
		left, fallen := anneal(t, l, oxygen, can)
		less, further := anneal(t, more, oxygen, can)
		if less.Low > left.Low || less.High > left.High || further.Low < fallen.Low || further.High < fallen.High {
			t.Fatal(l, more, oxygen, can, left, fallen, less, further)
		}
	}
}

// P5.8: with fewer regions and a narrower range of oxygen no range is wider.
func TestAnnealKnownBetter(t *testing.T) {
	r := dice()
	for range 2000 {
		l, oxygen := anySteps(r, r.Intn(6), 1000), anyRange(r, 0, 1000)
		can := api.RegionSet(1 + r.Intn(every))
		fewer := can & anySet(r)
		if fewer == 0 {
			continue
		}
		left, fallen := anneal(t, l, oxygen, can)
		less, further := anneal(t, l, narrow(r, oxygen), fewer)
		if !inside(less, left) || !inside(further, fallen) {
			t.Fatal(l, oxygen, can, fewer, left, fallen, less, further)
		}
	}
}
