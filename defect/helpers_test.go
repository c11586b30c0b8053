package defect_test

import (
	"math"
	"math/rand"
	"slices"
	"testing"

	"boule/api"
	"boule/defect"
)

const (
	interstitial = 1 << api.Interstitial
	inner        = 1 << api.QuietInner
	outer        = 1 << api.QuietOuter
	ring         = 1 << api.RingFaults
	vacancy      = 1 << api.Vacancy
	quiet        = inner | outer
	every        = 31
)

// hostile are integers at and around all limits.
var hostile = []int{
	math.MinInt, -1, 0, 1, 2, 5, 3000, 3001, 10000, 10001, 20000, 20001, 1000000, 1000001, math.MaxInt,
}

// badRanges are no ranges from 0 to 1000000.
var badRanges = []api.Range{
	span(-1, 5), span(5, 4), span(0, 1000001), span(1000001, 1000001), span(-1, -1),
	span(math.MinInt, 5), span(5, math.MaxInt), span(math.MinInt, math.MaxInt), span(math.MaxInt, math.MinInt),
}

func span(low, high int) api.Range { return api.Range{Low: low, High: high} }

func at(n int) api.Range { return span(n, n) }

func borders(scale int, a, b, c, d api.Range) api.DefectModel {
	return api.DefectModel{Scale: scale, Borders: [4]api.Range{a, b, c, d}}
}

// silicon is the model of the document's examples.
func silicon() api.DefectModel { return borders(1, at(2), span(3, 4), at(5), span(6, 8)) }

// flat returns a model in which all four borders are the same.
func flat(scale, border int) api.DefectModel {
	return borders(scale, at(border), at(border), at(border), at(border))
}

// badModels are not valid.
func badModels() []api.DefectModel {
	var l []api.DefectModel
	for _, scale := range []int{0, -1, 1000001, math.MinInt, math.MaxInt} {
		m := silicon()
		m.Scale = scale
		l = append(l, m)
	}
	for _, bad := range badRanges {
		for k := range 4 {
			m := silicon()
			m.Borders[k] = bad
			l = append(l, m)
		}
	}
	return append(l,
		borders(1, at(3), span(2, 4), at(5), at(6)), borders(1, span(2, 4), span(2, 3), at(5), at(6)),
		borders(1, at(2), span(4, 5), span(3, 5), at(6)), borders(1, at(2), span(3, 6), span(4, 5), at(6)),
		borders(1, at(2), at(3), at(5), span(4, 8)), borders(1, at(2), at(3), span(5, 9), span(6, 8)),
	)
}

// dice returns the same numbers in every run.
func dice() *rand.Rand { return rand.New(rand.NewSource(1)) }

// anyRange returns a range within limits, often a single number.
func anyRange(r *rand.Rand, least, most int) api.Range {
	low := least + r.Intn(most-least+1)
	if r.Intn(3) == 0 {
		return at(low)
	}
	return span(low, low+r.Intn(most-low+1))
}

// anyZones returns as many zones, with gradients up to a number.
func anyZones(r *rand.Rand, n, most int) []api.Range {
	var l []api.Range
	for range n {
		l = append(l, anyRange(r, 1, most))
	}
	return l
}

func anySet(r *rand.Rand) api.RegionSet { return api.RegionSet(r.Intn(every + 1)) }

// anyModel returns a model whose borders and scale are at most these numbers.
func anyModel(r *rand.Rand, scale, border int) api.DefectModel {
	var a, b [4]int
	for i := range a {
		a[i], b[i] = r.Intn(border+1), r.Intn(border+1)
	}
	slices.Sort(a[:])
	slices.Sort(b[:])
	m := api.DefectModel{Scale: 1 + r.Intn(scale)}
	for i := range a {
		m.Borders[i] = span(min(a[i], b[i]), max(a[i], b[i]))
	}
	return m
}

// narrow returns a part of a range.
func narrow(r *rand.Rand, x api.Range) api.Range {
	low := x.Low + r.Intn(x.High-x.Low+1)
	return span(low, low+r.Intn(x.High-low+1))
}

// narrowModel returns a model that is known better.
func narrowModel(r *rand.Rand, m api.DefectModel) api.DefectModel {
	low, high := 0, 0
	for i, b := range m.Borders {
		x := narrow(r, b)
		// The ends may not descend: what is raised stays within the border.
		low, high = max(low, x.Low), max(high, x.High)
		m.Borders[i] = span(low, high)
	}
	return m
}

// regions returns what Regions returns for arguments that are valid.
func regions(t *testing.T, m api.DefectModel, rate, gradient api.Range) api.RegionSet {
	t.Helper()
	s, e := defect.Regions(m, rate, gradient)
	if e != api.OK {
		t.Fatal("Regions", m, rate, gradient, e)
	}
	return s
}

// window returns what Window returns for arguments that are valid.
func window(t *testing.T, m api.DefectModel, zones []api.Range, wanted api.RegionSet) []api.Range {
	t.Helper()
	l, e := defect.Window(m, zones, wanted)
	if e != api.OK {
		t.Fatal("Window", m, zones, wanted, e)
	}
	return l
}

// printed returns what Print returns for arguments that are valid.
func printed(t *testing.T, m api.DefectModel, g api.Growth, cuts ...int) [][]api.RegionSet {
	t.Helper()
	l, e := defect.Print(m, g, cuts)
	if e != api.OK {
		t.Fatal("Print", m, g, cuts, e)
	}
	return l
}

// usable returns what Usable returns for arguments that are valid.
func usable(t *testing.T, m api.DefectModel, g api.Growth, wanted api.RegionSet) []api.Range {
	t.Helper()
	l, e := defect.Usable(m, g, wanted)
	if e != api.OK {
		t.Fatal("Usable", m, g, wanted, e)
	}
	return l
}

// anneal returns what Anneal returns for arguments that are valid.
func anneal(t *testing.T, l []api.HeatStep, oxygen api.Range, can api.RegionSet) (left, fallen api.Range) {
	t.Helper()
	left, fallen, e := defect.Anneal(l, oxygen, can)
	if e != api.OK {
		t.Fatal("Anneal", l, oxygen, can, e)
	}
	return left, fallen
}

func has(l []api.Range, n int) bool {
	return slices.ContainsFunc(l, func(r api.Range) bool { return r.Low <= n && n <= r.High })
}

// inside reports whether a range lies in another one.
func inside(a, b api.Range) bool { return b.Low <= a.Low && a.High <= b.High }

// covers reports whether each of some ranges lies in one of others.
func covers(outer, inner []api.Range) bool {
	for _, x := range inner {
		if !slices.ContainsFunc(outer, func(y api.Range) bool { return inside(x, y) }) {
			return false
		}
	}
	return true
}

// sameSets compares the sets of all slices.
func sameSets(a, b [][]api.RegionSet) bool {
	return slices.EqualFunc(a, b, func(x, y []api.RegionSet) bool { return slices.Equal(x, y) })
}

// down returns a divided by b, which is above 0, rounded down.
func down(a, b int) int {
	if a < 0 {
		return -up(-a, b)
	}
	return a / b
}

// up returns a divided by b, which is above 0, rounded up.
func up(a, b int) int {
	if a < 0 {
		return -down(-a, b)
	}
	return (a + b - 1) / b
}

func clamp(n, least, most int) int { return min(max(n, least), most) }
