package defect_test

import (
	"math"
	"math/rand"
	"slices"
	"testing"

	"boule/api"
	"boule/defect"
)

// ramp is the growth of the document's examples.
func ramp() api.Growth {
	return api.Growth{
		Rates:   []api.Knot{{X: 0, Y: 10}, {X: 10, Y: 20}},
		Zones:   []api.Range{at(2)},
		Factors: []api.Knot{{X: 0, Y: 10000}, {X: 10, Y: 10000}},
	}
}

// steady returns a growth of 10 mm with the same rate, gradient and factor all along.
func steady(rate, off int, zone api.Range, factor int) api.Growth {
	return api.Growth{
		Rates:   []api.Knot{{X: 0, Y: rate}, {X: 10, Y: rate}},
		Off:     off,
		Zones:   []api.Range{zone},
		Factors: []api.Knot{{X: 0, Y: factor}, {X: 10, Y: factor}},
	}
}

// stairs returns n knots from 0 to last, whose Y are turn by turn the one and the other.
func stairs(n, last, one, other int) []api.Knot {
	var l []api.Knot
	for i := range n {
		l = append(l, api.Knot{X: last * i / (n - 1), Y: []int{one, other}[i%2]})
	}
	return l
}

// change is done to a growth.
type change func(g *api.Growth)

// goodChanges make other growths of the ramp that are valid.
func goodChanges() []change {
	return []change{
		func(g *api.Growth) {},
		func(g *api.Growth) { g.Off = 1000000 },
		func(g *api.Growth) { g.Rates[0].Y, g.Rates[1].Y = 0, 1000000 },
		func(g *api.Growth) { g.Factors[0].Y, g.Factors[1].Y = 1, 20000 },
		func(g *api.Growth) { g.Rates[1].X, g.Factors[1].X = 3000, 3000 },
		func(g *api.Growth) {
			g.Rates[0].X, g.Rates[1].X, g.Factors[0].X, g.Factors[1].X = 2999, 3000, 2999, 3000
		},
		func(g *api.Growth) { g.Rates, g.Factors = stairs(60, 3000, 5, 9), stairs(60, 3000, 5, 9) },
		func(g *api.Growth) { g.Rates = append(g.Rates[:1], api.Knot{X: 3, Y: 7}, g.Rates[1]) },
		func(g *api.Growth) { g.Zones = slices.Repeat([]api.Range{span(1, 1000000)}, 20) },
	}
}

// badChanges make growths that are not valid.
func badChanges() []change {
	l := []change{
		func(g *api.Growth) { g.Rates = nil },
		func(g *api.Growth) { g.Factors = nil },
		func(g *api.Growth) { g.Rates = g.Rates[:1] },
		func(g *api.Growth) { g.Factors = g.Factors[:1] },
		func(g *api.Growth) { g.Rates, g.Factors = stairs(61, 60, 5, 9), stairs(2, 60, 5, 9) },
		func(g *api.Growth) { g.Rates, g.Factors = stairs(2, 60, 5, 9), stairs(61, 60, 5, 9) },
		func(g *api.Growth) { g.Rates = append(g.Rates[:1], g.Rates...) },
		func(g *api.Growth) { slices.Reverse(g.Factors) },
		func(g *api.Growth) { g.Rates[0].X, g.Factors[0].X = -1, -1 },
		func(g *api.Growth) { g.Rates[1].X, g.Factors[1].X = 3001, 3001 },
		func(g *api.Growth) { g.Rates[0].X = 1 },
		func(g *api.Growth) { g.Factors[0].X = 1 },
		func(g *api.Growth) { g.Rates[1].X = 9 },
		func(g *api.Growth) { g.Factors[1].X = 9 },
		func(g *api.Growth) { g.Rates[0].Y = -1 },
		func(g *api.Growth) { g.Rates[1].Y = 1000001 },
		func(g *api.Growth) { g.Rates = append(g.Rates[:1], api.Knot{X: 3, Y: 1000001}, g.Rates[1]) },
		func(g *api.Growth) { g.Factors[0].Y = 0 },
		func(g *api.Growth) { g.Factors[1].Y = 20001 },
		func(g *api.Growth) { g.Factors[1].Y = math.MinInt },
		func(g *api.Growth) { g.Off = -1 },
		func(g *api.Growth) { g.Off = 1000001 },
		func(g *api.Growth) { g.Off = math.MinInt },
		func(g *api.Growth) { g.Zones = nil },
		func(g *api.Growth) { g.Zones = []api.Range{} },
		func(g *api.Growth) { g.Zones = slices.Repeat(g.Zones, 21) },
		func(g *api.Growth) { g.Zones = []api.Range{at(2), span(0, 2)} },
	}
	for _, bad := range badRanges {
		l = append(l, func(g *api.Growth) { g.Zones = []api.Range{at(1), bad, at(2)} })
	}
	return l
}

// P5.6 (CheckGrowth).
func TestCheckGrowth(t *testing.T) {
	for i, good := range goodChanges() {
		g := ramp()
		good(&g)
		if e := defect.CheckGrowth(g); e != api.OK {
			t.Error(i, g, e)
		}
	}
	for i, bad := range badChanges() {
		g := ramp()
		bad(&g)
		if e := defect.CheckGrowth(g); e != api.ErrArg {
			t.Error(i, g, e)
		}
	}
}

// P5.6, P5.7, R1: a growth that is not valid comes before the cuts, and as the set.
func TestGrowthComesFirst(t *testing.T) {
	for i, bad := range badChanges() {
		g := ramp()
		bad(&g)
		for _, cuts := range [][]int{nil, {0, 2}, {2, 0}, make([]int, 501)} {
			if l, e := defect.Print(silicon(), g, cuts); len(l) != 0 || e != api.ErrArg {
				t.Error("Print", i, g, l, e)
			}
		}
		if l, e := defect.Usable(silicon(), g, every); len(l) != 0 || e != api.ErrArg {
			t.Error("Usable", i, g, l, e)
		}
	}
	for _, bad := range []api.RegionSet{32, 255, 64 | quiet} {
		if l, e := defect.Usable(silicon(), ramp(), bad); len(l) != 0 || e != api.ErrArg {
			t.Error("Usable", bad, l, e)
		}
	}
}

// P5.6 (Print), and example 4.
func TestPrint(t *testing.T) {
	bent := ramp()
	bent.Rates = []api.Knot{{X: 0, Y: 10}, {X: 3, Y: 4}, {X: 10, Y: 10}}
	zones := ramp()
	zones.Zones, zones.Factors[1].Y = []api.Range{at(2), span(2, 4), at(4)}, 5000
	later := ramp()
	later.Rates[0].X, later.Factors[0].X = 5, 5
	off := ramp()
	off.Off = 1
	for _, c := range []struct {
		name string
		g    api.Growth
		cuts []int
		want [][]api.RegionSet
	}{
		{"example 4", ramp(), []int{0, 2}, [][]api.RegionSet{{outer | ring}}},
		{"slices", ramp(), []int{0, 1, 2, 10}, [][]api.RegionSet{{outer | ring}, {ring}, {ring | vacancy}}},
		{"all of it", ramp(), []int{0, 10}, [][]api.RegionSet{{outer | ring | vacancy}}},
		{"one cut", ramp(), []int{3}, nil},
		{"a cut at the first place", ramp(), []int{0}, nil},
		{"a cut at the last place", ramp(), []int{10}, nil},
		{"no cut", ramp(), nil, nil},
		{"from a later place on", later, []int{5, 10}, [][]api.RegionSet{{outer | ring | vacancy}}},
		{"a knot within", bent, []int{2, 4, 9}, [][]api.RegionSet{{interstitial | inner}, {interstitial | quiet}}},
		{"zones and factors", zones, []int{0, 10}, [][]api.RegionSet{{outer | ring | vacancy, every &^ interstitial, every &^ interstitial}}},
		{"a zone and a factor of a half", zones, []int{9, 10}, [][]api.RegionSet{{vacancy, ring | vacancy, ring | vacancy}}},
		{"off by 1", off, []int{0, 2}, [][]api.RegionSet{{outer | ring | vacancy}}},
	} {
		if l, e := defect.Print(silicon(), c.g, c.cuts); !sameSets(l, c.want) || e != api.OK {
			t.Error(c.name, l, e)
		}
	}
}

// P5.6: rates and gradients end at their limits.
func TestPrintAtLimits(t *testing.T) {
	for _, c := range []struct {
		name string
		m    api.DefectModel
		g    api.Growth
		want api.RegionSet
	}{
		{"not faster than the fastest", flat(1, 1000000), steady(fastest, 5, at(1), 10000), interstitial},
		{"off by as much as can be", flat(1, 1000000), steady(10, 1000000, at(1), 10000), interstitial},
		{"not slower than nothing", flat(1, 0), steady(5, 6, at(1), 10000), interstitial | vacancy},
		{"slower, but something", flat(1, 0), steady(5, 4, at(1), 10000), vacancy},
		{"no gradient above the steepest", flat(2, 1), steady(fastest, 0, at(1000000), 20000), vacancy},
		{"a gradient that may be above the steepest", flat(2, 1), steady(fastest, 0, span(1, 1000000), 20000), vacancy},
		{"not a bit above the steepest", flat(11, 10), steady(909091, 0, at(1000000), 20000), vacancy},
		{"no gradient below 1", flat(1, 10), steady(5, 0, at(1), 5000), interstitial},
		{"the least factor", flat(1, 10), steady(10, 0, span(1, 10000), 1), interstitial},
		{"a gradient of a half up to 1", flat(1, 10), steady(11, 0, at(1), 5000), vacancy},
		{"a gradient rounded outwards", flat(1, 10), steady(15, 0, at(3), 5000), interstitial | vacancy},
		{"a gradient rounded down", flat(1, 10), steady(11, 0, at(3), 5000), interstitial | vacancy},
		{"a gradient rounded up", flat(1, 10), steady(20, 0, at(3), 5000), interstitial | vacancy},
		{"above a gradient rounded up", flat(1, 10), steady(21, 0, at(3), 5000), vacancy},
		{"not above a gradient rounded down", flat(1, 10), steady(10, 0, at(3), 5000), interstitial},
	} {
		if l := printed(t, c.m, c.g, 3, 4); !sameSets(l, [][]api.RegionSet{{c.want}}) {
			t.Error(c.name, l)
		}
	}
}

// P5.6: errors of cuts, and their order.
func TestPrintErrors(t *testing.T) {
	long := ramp()
	long.Rates[1].X, long.Factors[1].X = 3000, 3000
	var cuts []int
	for i := range 501 {
		cuts = append(cuts, i)
	}
	for _, c := range []struct {
		name string
		cuts []int
		want api.Errno
	}{
		{"500 cuts", cuts[:500], api.OK},
		{"501 cuts", cuts, api.ErrLong},
		{"501 cuts that do not ascend", make([]int, 501), api.ErrLong},
		{"up to the last place", []int{0, 3000}, api.OK},
		{"behind the last place", []int{0, 3001}, api.ErrRange},
		{"one cut behind the last place", []int{3001}, api.ErrRange},
		{"before the first place", []int{-1, 3}, api.ErrRange},
		{"one cut before the first place", []int{-1}, api.ErrRange},
		{"the same cut", []int{5, 5}, api.ErrRange},
		{"descending", []int{5, 6, 4}, api.ErrRange},
		{"far away", []int{math.MinInt, math.MaxInt}, api.ErrRange},
	} {
		l, e := defect.Print(silicon(), long, c.cuts)
		if e != c.want || e == api.OK && len(l) != len(c.cuts)-1 || e != api.OK && len(l) != 0 {
			t.Error(c.name, len(l), e)
		}
	}
	later := ramp()
	later.Rates[0].X, later.Factors[0].X = 5, 5
	if l, e := defect.Print(silicon(), later, []int{4, 6}); len(l) != 0 || e != api.ErrRange {
		t.Error("before the first place", l, e)
	}
}

// P5.7, and example 4.
func TestUsable(t *testing.T) {
	hill := ramp()
	hill.Rates = []api.Knot{{X: 0, Y: 8}, {X: 5, Y: 13}, {X: 10, Y: 8}}
	later := hill
	later.Rates, later.Factors = slices.Clone(hill.Rates[1:]), []api.Knot{{X: 5, Y: 10000}, {X: 10, Y: 10000}}
	zones := ramp()
	zones.Zones = []api.Range{at(2), at(3)}
	for _, c := range []struct {
		name   string
		g      api.Growth
		wanted api.RegionSet
		want   []api.Range
	}{
		{"example 4, 28", ramp(), outer | ring | vacancy, []api.Range{span(0, 10)}},
		{"example 4, 12", ramp(), outer | ring, []api.Range{span(0, 2)}},
		{"the end", ramp(), ring | vacancy, []api.Range{span(1, 10)}},
		{"one region", ramp(), vacancy, []api.Range{span(7, 10)}},
		{"two regions that do not touch", ramp(), outer | vacancy, []api.Range{span(7, 10)}},
		{"a millimetre", ramp(), ring, []api.Range{span(1, 2)}},
		{"another region", ramp(), interstitial, nil},
		{"no region", ramp(), 0, nil},
		{"all regions", ramp(), every, []api.Range{span(0, 10)}},
		{"two stretches", hill, quiet, []api.Range{span(0, 2), span(8, 10)}},
		{"the top of the hill", hill, ring | vacancy, []api.Range{span(3, 7)}},
		{"from a later place on", later, ring | vacancy, []api.Range{span(5, 7)}},
		{"all from a later place on", later, every, []api.Range{span(5, 10)}},
		{"two zones", zones, quiet | ring, []api.Range{span(0, 2)}},
		{"both zones are far out", zones, vacancy, nil},
	} {
		if l, e := defect.Usable(silicon(), c.g, c.wanted); !slices.Equal(l, c.want) || e != api.OK {
			t.Error(c.name, l, e)
		}
	}
}

// plainValue returns the least range of the values of a table from a place to another one.
func plainValue(l []api.Knot, from, to int) api.Range {
	r := span(math.MaxInt, math.MinInt)
	for x := from; x <= to; x++ {
		i := 1
		for l[i].X < x {
			i++
		}
		a, b := l[i-1], l[i]
		rise, run := (b.Y-a.Y)*(x-a.X), b.X-a.X
		r = span(min(r.Low, a.Y+down(rise, run)), max(r.High, a.Y+up(rise, run)))
	}
	return r
}

// plainPrinted returns the regions of a slice as the chapter says it.
func plainPrinted(t *testing.T, m api.DefectModel, g api.Growth, from, to int) []api.RegionSet {
	t.Helper()
	rate, factor := plainValue(g.Rates, from, to), plainValue(g.Factors, from, to)
	rate = span(clamp(rate.Low-g.Off, 0, fastest), clamp(rate.High+g.Off, 0, fastest))
	var l []api.RegionSet
	for _, z := range g.Zones {
		low, high := down(z.Low*factor.Low, 10000), up(z.High*factor.High, 10000)
		l = append(l, regions(t, m, rate, span(clamp(low, 1, 1000000), clamp(high, 1, 1000000))))
	}
	return l
}

// anyTable returns a table from a place to another one, whose Y are within limits.
func anyTable(r *rand.Rand, from, to int, y api.Range) []api.Knot {
	xs := []int{from, to}
	for range r.Intn(4) {
		xs = append(xs, from+r.Intn(to-from+1))
	}
	slices.Sort(xs)
	var l []api.Knot
	for _, x := range slices.Compact(xs) {
		l = append(l, api.Knot{X: x, Y: y.Low + r.Intn(y.High-y.Low+1)})
	}
	return l
}

// anyGrowth returns a growth, and a model of numbers of the same size.
func anyGrowth(r *rand.Rand, i int) (api.DefectModel, api.Growth) {
	from := r.Intn(20)
	to := from + 1 + r.Intn(20)
	if i%10 == 0 {
		return anyModel(r, 1000, 1000000), api.Growth{
			Rates: anyTable(r, from, to, span(0, fastest)), Off: r.Intn(100000),
			Zones: anyZones(r, 1+r.Intn(4), 1000000), Factors: anyTable(r, from, to, span(1, 20000)),
		}
	}
	return anyModel(r, 3, 9), api.Growth{
		Rates: anyTable(r, from, to, span(0, 30)), Off: r.Intn(3),
		Zones: anyZones(r, 1+r.Intn(3), 6), Factors: anyTable(r, from, to, span(3000, 20000)),
	}
}

// anyCuts returns cuts of a growth.
func anyCuts(r *rand.Rand, g api.Growth) []int {
	first, last := g.Rates[0].X, g.Rates[len(g.Rates)-1].X
	var l []int
	for range 1 + r.Intn(8) {
		l = append(l, first+r.Intn(last-first+1))
	}
	slices.Sort(l)
	return slices.Compact(l)
}

// P5.6: slice by slice, as the chapter says it.
func TestPrintAgainstPlacesOneByOne(t *testing.T) {
	r := dice()
	for i := range 2000 {
		m, g := anyGrowth(r, i)
		cuts := anyCuts(r, g)
		l := printed(t, m, g, cuts...)
		if len(l) != len(cuts)-1 {
			t.Fatal(m, g, cuts, l)
		}
		for k, sets := range l {
			if want := plainPrinted(t, m, g, cuts[k], cuts[k+1]); !slices.Equal(sets, want) {
				t.Fatal(m, g, cuts, k, sets, want)
			}
		}
	}
}

// P5.7, P5.10: millimetre by millimetre.
func TestUsableMillimetreByMillimetre(t *testing.T) {
	r := dice()
	for i := range 2000 {
		m, g := anyGrowth(r, i)
		wanted := anySet(r) | anySet(r)
		first, last := g.Rates[0].X, g.Rates[len(g.Rates)-1].X
		var want []api.Range
		for k := first; k < last; k++ {
			good := true
			for _, s := range printed(t, m, g, k, k+1)[0] {
				good = good && s&^wanted == 0
			}
			switch n := len(want); {
			case !good:
			case n > 0 && want[n-1].High == k:
				want[n-1].High = k + 1
			default:
				want = append(want, span(k, k+1))
			}
		}
		if l := usable(t, m, g, wanted); !slices.Equal(l, want) {
			t.Fatal(m, g, wanted, l, want)
		}
	}
}

// P5.9: a true place is in a region that is printed.
func TestPrintIsTrue(t *testing.T) {
	r := dice()
	for i := range 3000 {
		m, g := anyGrowth(r, i)
		cuts := anyCuts(r, g)
		for k, sets := range printed(t, m, g, cuts...) {
			x := cuts[k] + r.Intn(cuts[k+1]-cuts[k]+1)
			rate := narrow(r, plainValue(g.Rates, x, x)).Low + r.Intn(2*g.Off+1) - g.Off
			known := narrowModel(r, m)
			for z, zone := range g.Zones {
				gradient := down(narrow(r, zone).Low*narrow(r, plainValue(g.Factors, x, x)).Low, 10000)
				region := 0
				for _, b := range known.Borders {
					if b.Low*clamp(gradient, 1, 1000000) < clamp(rate, 0, fastest)*m.Scale {
						region++
					}
				}
				if sets[z]>>region&1 == 0 {
					t.Fatal(m, g, cuts, k, z, "at", x, rate, gradient, region, sets)
				}
			}
		}
	}
}

// P5.9: a slice has no more regions than a longer one around it, and what is
// known better has no more of them.
func TestShorterSlicesHaveNoMoreRegions(t *testing.T) {
	r := dice()
	for i := range 2000 {
		m, g := anyGrowth(r, i)
		first, last := g.Rates[0].X, g.Rates[len(g.Rates)-1].X
		from := first + r.Intn(last-first)
		to := from + 1 + r.Intn(last-from)
		long, short := printed(t, m, g, first, last)[0], printed(t, m, g, from, to)[0]
		wantNoMore(t, "shorter", long, short)
		better := g
		better.Off, better.Zones = r.Intn(g.Off+1), slices.Clone(g.Zones)
		for z, zone := range better.Zones {
			better.Zones[z] = narrow(r, zone)
		}
		wantNoMore(t, "known better", short, printed(t, narrowModel(r, m), better, from, to)[0])
	}
}

func wantNoMore(t *testing.T, name string, sets, fewer []api.RegionSet) {
	t.Helper()
	for z, s := range sets {
		if fewer[z]&^s != 0 || fewer[z] == 0 {
			t.Fatal(name, sets, fewer)
		}
	}
}

// P5.10: what is usable does not shrink with more regions wanted or fewer zones.
func TestUsableDoesNotShrink(t *testing.T) {
	r := dice()
	for i := range 1000 {
		m, g := anyGrowth(r, i)
		wanted := anySet(r)
		l := usable(t, m, g, wanted)
		if more := usable(t, m, g, wanted|anySet(r)); !covers(more, l) {
			t.Fatal("more regions", m, g, wanted, l, more)
		}
		fewer := g
		fewer.Zones = g.Zones[:1]
		if more := usable(t, m, fewer, wanted); !covers(more, l) {
			t.Fatal("fewer zones", m, g, wanted, l, more)
		}
	}
}
