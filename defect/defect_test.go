package defect_test

import (
	"testing"

	"boule/api"
	"boule/defect"
)

// P5.1.
func TestCheckModel(t *testing.T) {
	for _, good := range []api.DefectModel{
		silicon(), flat(1, 0), flat(1000000, 1000000), flat(1, 5),
		borders(1, span(0, 1000000), span(0, 1000000), span(0, 1000000), span(0, 1000000)),
		borders(7, span(0, 3), span(0, 3), span(1, 3), span(1, 9)),
		borders(7, span(3, 4), span(3, 9), span(4, 9), span(9, 9)),
	} {
		if e := defect.CheckModel(good); e != api.OK {
			t.Error(good, e)
		}
	}
	for _, bad := range badModels() {
		if e := defect.CheckModel(bad); e != api.ErrArg {
			t.Error(bad, e)
		}
	}
}

// P5.1, R1: all functions with a model demand a valid one before anything else.
func TestModelComesFirst(t *testing.T) {
	for _, bad := range badModels() {
		if s, e := defect.Regions(bad, span(1, 0), at(0)); s != 0 || e != api.ErrArg {
			t.Error("Regions", bad, s, e)
		}
		if l, e := defect.Window(bad, make([]api.Range, 21), 0); len(l) != 0 || e != api.ErrArg {
			t.Error("Window", bad, l, e)
		}
		if z, k, e := defect.Why(bad, make([]api.Range, 21), 0, -1); z != 0 || k != 0 || e != api.ErrArg {
			t.Error("Why", bad, z, k, e)
		}
		if z, k, e := defect.Why(bad, nil, 0, -1); z != 0 || k != 0 || e != api.ErrArg {
			t.Error("Why", bad, z, k, e)
		}
		for _, cuts := range [][]int{nil, {0, 1}, {1, 0}, make([]int, 501)} {
			if l, e := defect.Print(bad, ramp(), cuts); len(l) != 0 || e != api.ErrArg {
				t.Error("Print", bad, l, e)
			}
		}
		if l, e := defect.Usable(bad, ramp(), every); len(l) != 0 || e != api.ErrArg {
			t.Error("Usable", bad, l, e)
		}
	}
}

// P5.2, and examples 1 and 2.
func TestRegions(t *testing.T) {
	tenths := borders(10, at(35), at(45), at(50), at(60))
	twice := borders(1, at(2), at(2), at(5), at(8))
	loose := borders(1, span(2, 6), span(3, 7), span(4, 8), span(5, 9))
	for _, c := range []struct {
		name           string
		m              api.DefectModel
		rate, gradient api.Range
		want           api.RegionSet
	}{
		{"example 1, the rate 10", silicon(), at(10), at(2), outer},
		{"example 1, the rate 8", silicon(), at(8), at(2), quiet},
		{"example 2", silicon(), span(10, 14), at(2), outer | ring | vacancy},
		{"at the first border", silicon(), at(4), at(2), interstitial},
		{"above the first border", silicon(), at(5), at(2), inner},
		{"at the least second border", silicon(), at(6), at(2), inner},
		{"above it", silicon(), at(7), at(2), quiet},
		{"above the greatest second border", silicon(), at(9), at(2), outer},
		{"above the third border", silicon(), at(11), at(2), ring},
		{"at the least last border", silicon(), at(12), at(2), ring},
		{"above the least last border", silicon(), at(13), at(2), ring | vacancy},
		{"at the greatest last border", silicon(), at(16), at(2), ring | vacancy},
		{"above it", silicon(), at(17), at(2), vacancy},
		{"nothing is pulled", silicon(), at(0), at(9), interstitial},
		{"nothing is pulled, without borders", flat(1, 0), at(0), at(1), interstitial},
		{"pulled without borders", flat(1, 0), at(1), at(1000000), vacancy},
		{"some gradients", silicon(), at(10), span(2, 5), interstitial | quiet},
		{"all of it", silicon(), span(4, 20), span(1, 3), every},
		{"no room between two borders", twice, span(2, 9), at(2), interstitial | outer},
		{"no room for any gradient", twice, span(2, 9), span(1, 4), interstitial | outer | ring | vacancy},
		{"one border only", flat(1, 3), span(0, 9), span(1, 9), interstitial | vacancy},
		{"any region by the borders alone", loose, at(6), at(1), every},
		{"all but the last", loose, at(5), at(1), every &^ vacancy},
		{"all but the first", loose, at(7), at(1), every &^ interstitial},
		{"only between whole gradients", tenths, at(10), span(2, 3), interstitial | quiet},
		{"only between whole rates", borders(10, at(12), at(18), at(20), at(30)), span(1, 2), at(1), interstitial | quiet},
		{"the greatest numbers", flat(1000000, 1000000), at(1000000), at(1000000), interstitial},
		{"a little above the border", flat(1000000, 1000000), at(1000000), at(999999), vacancy},
		{"the fastest", flat(1000000, 999999), at(1000000), at(1), vacancy},
		{"the slowest", flat(1, 1), at(1), at(1000000), interstitial},
		{"whatever the gradient", flat(1, 1), at(1000000), span(1, 1000000), interstitial | vacancy},
		{"just not whatever the gradient", flat(1, 1), at(1000000), span(1, 999999), vacancy},
	} {
		if s, e := defect.Regions(c.m, c.rate, c.gradient); s != c.want || e != api.OK {
			t.Error(c.name, s, e)
		}
	}
}

// P5.2: ranges that are not valid.
func TestRegionsErrors(t *testing.T) {
	for _, bad := range append(badRanges, span(0, 0), span(0, 5)) {
		if s, e := defect.Regions(silicon(), at(4), bad); s != 0 || e != api.ErrArg {
			t.Error("gradient", bad, s, e)
		}
	}
	for _, bad := range badRanges {
		if s, e := defect.Regions(silicon(), bad, at(2)); s != 0 || e != api.ErrArg {
			t.Error("rate", bad, s, e)
		}
	}
	if s, e := defect.Regions(silicon(), span(0, 1000000), span(1, 1000000)); s != every || e != api.OK {
		t.Error("the widest ranges", s, e)
	}
}

// parts is by how much gradients are cut: with borders of at most 4 there is a
// part at which the greatest rate is just at a border.
const parts = 12

// trueBorders calls a function with all whole borders that a model can have.
func trueBorders(m api.DefectModel, do func([4]int)) {
	var b [4]int
	var from func(i int)
	from = func(i int) {
		if i == len(b) {
			do(b)
			return
		}
		for n := m.Borders[i].Low; n <= m.Borders[i].High; n++ {
			if b[i] = n; i == 0 || b[i-1] <= n {
				from(i + 1)
			}
		}
	}
	from(0)
}

// plainRegions goes through true numbers: whole borders, rates times Scale that
// are whole, and parts of gradients.
func plainRegions(m api.DefectModel, rate, gradient api.Range) api.RegionSet {
	var can api.RegionSet
	trueBorders(m, func(l [4]int) {
		for scaled := rate.Low * m.Scale; scaled <= rate.High*m.Scale; scaled++ {
			for part := gradient.Low * parts; part <= gradient.High*parts; part++ {
				k := 0
				for _, b := range l {
					if b*part < scaled*parts {
						k++
					}
				}
				can |= 1 << k
			}
		}
	})
	return can
}

// P5.2, P5.9, T2: no region is missing, and each one is that of true numbers.
func TestRegionsAgainstTrueNumbers(t *testing.T) {
	r := dice()
	for range 3000 {
		m := anyModel(r, 3, 4)
		rate, gradient := anyRange(r, 0, 8), anyRange(r, 1, 3)
		if s, want := regions(t, m, rate, gradient), plainRegions(m, rate, gradient); s != want {
			t.Fatal(m, rate, gradient, s, want)
		}
	}
}

// P5.9: with smaller ranges there are no more regions.
func TestSmallerRangesHaveNoMoreRegions(t *testing.T) {
	r := dice()
	for i := range 5000 {
		m, rate, gradient := anyModel(r, 3, 9), anyRange(r, 0, 30), anyRange(r, 1, 5)
		if i%5 == 0 {
			m, rate, gradient = anyModel(r, 1000000, 1000000), anyRange(r, 0, 1000000), anyRange(r, 1, 1000000)
		}
		known := narrowModel(r, m)
		s, better := regions(t, m, rate, gradient), regions(t, known, narrow(r, rate), narrow(r, gradient))
		if better&^s != 0 || better == 0 {
			t.Fatal(m, rate, gradient, s, "known better", known, better)
		}
	}
}

// P5.3: all sets.
func TestJudge(t *testing.T) {
	for can := range 256 {
		for wanted := range 256 {
			in, out := 0, 0
			for k := range 5 {
				if can>>k&1 == 1 && wanted>>k&1 == 1 {
					in++
				} else if can>>k&1 == 1 {
					out++
				}
			}
			grade, want := api.Possibly, api.OK
			switch {
			case can > every || wanted > every:
				grade, want = 0, api.ErrArg
			case out == 0:
				grade = api.Surely
			case in == 0:
				grade = api.Never
			}
			if g, e := defect.Judge(api.RegionSet(can), api.RegionSet(wanted)); g != grade || e != want {
				t.Fatal(can, wanted, g, e)
			}
		}
	}
	if api.Surely != 1 || api.Possibly != 2 || api.Never != 3 {
		t.Error("the numbers of the grades")
	}
}
