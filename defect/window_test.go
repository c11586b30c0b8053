package defect_test

import (
	"math"
	"slices"
	"testing"

	"boule/api"
	"boule/defect"
)

const fastest = api.MaxSpeed

// P5.4, and example 3.
func TestWindow(t *testing.T) {
	coarse := borders(1000, at(2), at(3), at(5), at(8))
	twice := borders(1, at(2), at(2), at(5), at(8))
	for _, c := range []struct {
		name   string
		m      api.DefectModel
		zones  []api.Range
		wanted api.RegionSet
		want   []api.Range
	}{
		{"example 3", silicon(), []api.Range{at(2)}, quiet, []api.Range{span(5, 10)}},
		{"example 3, two zones", silicon(), []api.Range{at(2), span(2, 3)}, quiet, []api.Range{span(7, 10)}},
		{"no rate for both zones", silicon(), []api.Range{at(2), at(5)}, quiet, nil},
		{"two runs", silicon(), []api.Range{at(2)}, interstitial | vacancy, []api.Range{span(0, 4), span(17, fastest)}},
		{"three runs", silicon(), []api.Range{at(2)}, every &^ inner &^ ring, []api.Range{span(0, 4), span(9, 10), span(17, fastest)}},
		{"a run in the middle", silicon(), []api.Range{at(2)}, ring, []api.Range{span(11, 12)}},
		{"runs that would touch are one", silicon(), []api.Range{at(2)}, interstitial | inner, []api.Range{span(0, 6)}},
		{"all regions", silicon(), []api.Range{at(2), span(1, 9)}, every, []api.Range{span(0, fastest)}},
		{"no regions", silicon(), []api.Range{at(2)}, 0, nil},
		{"no zones", silicon(), nil, quiet, []api.Range{span(0, fastest)}},
		{"no zones and no regions", silicon(), []api.Range{}, 0, []api.Range{span(0, fastest)}},
		{"a gap of one rate", borders(1, at(2), at(3), at(5), at(6)), []api.Range{at(1)}, every &^ inner, []api.Range{span(0, 2), span(4, fastest)}},
		{"a run of one rate", borders(1, at(2), at(3), at(5), at(6)), []api.Range{at(1)}, inner, []api.Range{at(3)}},
		{"only the first rate", flat(1, 0), []api.Range{at(5)}, interstitial, []api.Range{at(0)}},
		{"all but the first rate", flat(1, 0), []api.Range{at(5)}, vacancy, []api.Range{span(1, fastest)}},
		{"only the last rate", flat(1, 999999), []api.Range{at(1)}, vacancy, []api.Range{at(fastest)}},
		{"all but the last rate", flat(1, 999999), []api.Range{at(1)}, interstitial, []api.Range{span(0, 999999)}},
		{"no rate is above", flat(1, 1000000), []api.Range{at(1)}, vacancy, nil},
		{"every rate is below", flat(1, 1000000), []api.Range{at(1)}, interstitial, []api.Range{span(0, fastest)}},
		{"far beyond all rates", flat(1, 1000000), []api.Range{at(1000000)}, interstitial, []api.Range{span(0, fastest)}},
		{"no whole rate is in it", coarse, []api.Range{at(2)}, every &^ inner, []api.Range{span(0, fastest)}},
		{"no rate is in it alone", coarse, []api.Range{at(2)}, inner, nil},
		{"no room between two borders", twice, []api.Range{span(2, 3)}, every &^ inner, []api.Range{span(0, fastest)}},
		{"the same zone often", silicon(), slices.Repeat([]api.Range{at(2)}, 20), quiet, []api.Range{span(5, 10)}},
		{"what is lost lies in what is lost", silicon(), []api.Range{span(1, 9), at(2), at(3)}, every &^ ring, []api.Range{span(0, 5), span(73, fastest)}},
		{"the order of the zones", silicon(), []api.Range{at(3), at(2), at(1)}, every &^ ring, []api.Range{span(0, 5), span(9, 10), span(25, fastest)}},
	} {
		if l, e := defect.Window(c.m, c.zones, c.wanted); !slices.Equal(l, c.want) || e != api.OK {
			t.Error(c.name, l, e)
		}
	}
}

// P5.5, and example 3.
func TestWhy(t *testing.T) {
	both := []api.Range{at(2), span(2, 3)}
	for _, c := range []struct {
		name   string
		zones  []api.Range
		wanted api.RegionSet
		rate   int
		zone   int
		region api.Region
	}{
		{"example 3", both, quiet, 11, 0, api.RingFaults},
		{"nothing", both, quiet, 7, -1, 0},
		{"nothing at the other end", both, quiet, 10, -1, 0},
		{"the second zone", both, quiet, 6, 1, api.Interstitial},
		{"both zones", both, quiet, 4, 0, api.Interstitial},
		{"the last region", both, quiet, 17, 0, api.Vacancy},
		{"the least of two regions", both, quiet, 16, 0, api.RingFaults},
		{"a lesser one is wanted", both, quiet | ring, 16, 0, api.Vacancy},
		{"the least of all", []api.Range{span(1, 9)}, 0, 17, 0, api.Interstitial},
		{"the least one in the first zone", []api.Range{at(2), at(9)}, 0, 11, 0, api.RingFaults},
		{"no zones", nil, 0, 11, -1, 0},
		{"all regions", both, every, 11, -1, 0},
		{"the slowest", both, quiet, 0, 0, api.Interstitial},
		{"the fastest", both, quiet, fastest, 0, api.Vacancy},
		{"the twentieth zone", append(slices.Repeat([]api.Range{at(2)}, 19), at(5)), quiet, 8, 19, api.Interstitial},
	} {
		if zone, region, e := defect.Why(silicon(), c.zones, c.wanted, c.rate); zone != c.zone || region != c.region || e != api.OK {
			t.Error(c.name, zone, region, e)
		}
	}
}

// P5.4, P5.5: errors, and their order.
func TestWindowErrors(t *testing.T) {
	const most = math.MaxInt
	good := slices.Repeat([]api.Range{span(1, 1000000)}, 20)
	for _, c := range []struct {
		name        string
		zones       []api.Range
		wanted      api.RegionSet
		rate        int
		window, why api.Errno
	}{
		{"at the limits", good, every, 0, api.OK, api.OK},
		{"at the limits", good, every, fastest, api.OK, api.OK},
		{"21 zones", append(good, at(2)), every, 5, api.ErrLong, api.ErrLong},
		{"too long, and not valid", make([]api.Range, 21), 32, -1, api.ErrLong, api.ErrLong},
		{"a set that is not valid", good, 32, 5, api.ErrArg, api.ErrArg},
		{"a set that is not valid", nil, 255, -1, api.ErrArg, api.ErrArg},
		{"a set that is not valid", nil, 64 | quiet, 5, api.ErrArg, api.ErrArg},
		{"a gradient of 0", []api.Range{at(2), span(0, 2)}, every, -1, api.ErrArg, api.ErrArg},
		{"a rate below 0", good, every, -1, api.OK, api.ErrRange},
		{"a rate below 0 without zones", nil, every, -1, api.OK, api.ErrRange},
		{"a rate above the fastest", good, every, fastest + 1, api.OK, api.ErrRange},
		{"a rate that is no number", good, every, most, api.OK, api.ErrRange},
		{"a rate that is no number", good, every, -most - 1, api.OK, api.ErrRange},
	} {
		wantWindow(t, c.name, c.zones, c.wanted, c.window)
		wantWhy(t, c.name, c.zones, c.wanted, c.rate, c.why)
	}
	for _, bad := range append(badRanges, at(0), span(0, 5)) {
		for i := range 3 {
			zones := []api.Range{at(2), at(3), at(4)}
			zones[i] = bad
			wantWindow(t, "a zone", zones, every, api.ErrArg)
			wantWhy(t, "a zone", zones, every, 5, api.ErrArg)
		}
	}
}

func wantWindow(t *testing.T, name string, zones []api.Range, wanted api.RegionSet, want api.Errno) {
	t.Helper()
	if l, e := defect.Window(silicon(), zones, wanted); e != want || e != api.OK && len(l) != 0 {
		t.Error("Window", name, zones, l, e)
	}
}

func wantWhy(t *testing.T, name string, zones []api.Range, wanted api.RegionSet, rate int, want api.Errno) {
	t.Helper()
	if z, k, e := defect.Why(silicon(), zones, wanted, rate); e != want || e != api.OK && (z != 0 || k != 0) {
		t.Error("Why", name, zones, rate, z, k, e)
	}
}

// plainWhy goes through the zones and their regions.
func plainWhy(t *testing.T, m api.DefectModel, zones []api.Range, wanted api.RegionSet, rate int) (int, api.Region) {
	t.Helper()
	for i, z := range zones {
		for k := range 5 {
			if regions(t, m, at(rate), z)>>k&1 == 1 && wanted>>k&1 == 0 {
				return i, api.Region(k)
			}
		}
	}
	return -1, 0
}

// P5.4, P5.5, P5.10: rate by rate. Above the rate 60 all is vacancy.
func TestWindowRateByRate(t *testing.T) {
	r := dice()
	for range 1000 {
		m, zones, wanted := anyModel(r, 3, 9), anyZones(r, r.Intn(4), 6), anySet(r)
		l := window(t, m, zones, wanted)
		for rate := range 60 {
			wantRate(t, m, zones, wanted, rate, l)
		}
		for _, rate := range []int{60, 1000, 999999, fastest} {
			wantRate(t, m, zones, wanted, rate, l)
		}
		wantRuns(t, l)
	}
}

// P5.4, P5.5, P5.10: with great numbers, around the ends and anywhere else.
func TestWindowOfGreatNumbers(t *testing.T) {
	r := dice()
	for range 1000 {
		m := anyModel(r, []int{10, 1000, 1000000}[r.Intn(3)], 1000000)
		zones, wanted := anyZones(r, 1+r.Intn(20), []int{3, 100, 1000000}[r.Intn(3)]), anySet(r)
		l := window(t, m, zones, wanted)
		rates := []int{0, fastest}
		for _, x := range l {
			rates = append(rates, x.Low-1, x.Low, x.High, x.High+1)
		}
		for range 20 {
			rates = append(rates, r.Intn(fastest+1))
		}
		for _, rate := range rates {
			if 0 <= rate && rate <= fastest {
				wantRate(t, m, zones, wanted, rate, l)
			}
		}
		wantRuns(t, l)
	}
}

// wantRate checks that a rate is in a window just if there is no reason why not.
func wantRate(t *testing.T, m api.DefectModel, zones []api.Range, wanted api.RegionSet, rate int, l []api.Range) {
	t.Helper()
	zone, region := plainWhy(t, m, zones, wanted, rate)
	if has(l, rate) != (zone < 0) {
		t.Fatal("Window", m, zones, wanted, rate, l)
	}
	if z, k, e := defect.Why(m, zones, wanted, rate); z != zone || k != region || e != api.OK {
		t.Fatal("Why", m, zones, wanted, rate, z, k, e)
	}
}

// wantRuns checks that runs ascend and that there is a rate between any two of them.
func wantRuns(t *testing.T, l []api.Range) {
	t.Helper()
	before := -2
	for _, x := range l {
		if x.Low < before+2 || x.Low > x.High || x.High > fastest {
			t.Fatal(l)
		}
		before = x.High
	}
}

// P5.10: with more regions wanted, fewer zones or smaller ranges the window does not shrink.
func TestWindowDoesNotShrink(t *testing.T) {
	r := dice()
	for i := range 2000 {
		scale, border, gradient := 3, 9, 6
		if i%5 == 0 {
			scale, border, gradient = 1000, 1000000, 1000
		}
		m, zones, wanted := anyModel(r, scale, border), anyZones(r, 1+r.Intn(4), gradient), anySet(r)
		l := window(t, m, zones, wanted)
		if more := window(t, m, zones, wanted|anySet(r)); !covers(more, l) {
			t.Fatal("more regions", m, zones, wanted, l, more)
		}
		if more := window(t, m, slices.Delete(slices.Clone(zones), 0, 1), wanted); !covers(more, l) {
			t.Fatal("fewer zones", m, zones, wanted, l, more)
		}
		smaller := slices.Clone(zones)
		for i, z := range smaller {
			smaller[i] = narrow(r, z)
		}
		if more := window(t, narrowModel(r, m), smaller, wanted); !covers(more, l) {
			t.Fatal("smaller ranges", m, zones, smaller, wanted, l, more)
		}
	}
}
