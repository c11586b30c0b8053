package crop_test

import (
	"math"
	"slices"
	"testing"

	"boule/api"
	"boule/crop"
)

func slab(length, low, high int) api.Slab { return api.Slab{Length: length, Diameter: span(low, high)} }

// badSlabs are not valid.
func badSlabs() []api.Slab {
	l := []api.Slab{{}, slab(0, 5, 6), slab(-1, 5, 6), slab(3001, 5, 6), slab(math.MaxInt, 5, 6), slab(math.MinInt, 5, 6)}
	for _, r := range []api.Range{span(-1, 5), span(-5, -5), span(6, 5), span(5, 500001), span(500001, 500001), span(math.MinInt, 5), span(5, math.MaxInt), span(math.MinInt, math.MaxInt), span(math.MaxInt, math.MinInt)} {
		l = append(l, api.Slab{Length: 1, Diameter: r})
	}
	return l
}

// badDiameters are none to which a slab can be ground.
var badDiameters = []int{0, -1, 500001, math.MinInt, math.MaxInt}

// wantGrind checks the results of Grind.
func wantGrind(t *testing.T, s api.Slab, diameter, kept int, removed api.Range, want api.Errno) {
	t.Helper()
	if n, r, e := crop.Grind(s, diameter); n != kept || r != removed || e != want {
		t.Error("Grind", s, diameter, n, r, e, "want", kept, removed, want)
	}
}

// P7.1, and example 1.
func TestGrind(t *testing.T) {
	wantGrind(t, slab(10, 200000, 201000), 200000, 400000000000, span(0, 4010000000), api.OK)
	wantGrind(t, slab(1, 7, 9), 5, 25, span(24, 56), api.OK)
	wantGrind(t, slab(3, 7, 7), 7, 147, span(0, 0), api.OK)
	wantGrind(t, slab(2, 1, 2), 1, 2, span(0, 6), api.OK)
	wantGrind(t, slab(3000, 500000, 500000), 500000, 750000000000000, span(0, 0), api.OK)
	wantGrind(t, slab(3000, 500000, 500000), 1, 3000, span(749999999997000, 749999999997000), api.OK)
}

// P7.1: errors, and their order.
func TestGrindErrors(t *testing.T) {
	wantGrind(t, slab(1, 5, 9), 6, 0, api.Range{}, api.ErrThin)
	wantGrind(t, slab(1, 5, 5), 6, 0, api.Range{}, api.ErrThin)
	wantGrind(t, slab(1, 0, 500000), 1, 0, api.Range{}, api.ErrThin)
	wantGrind(t, slab(1, 0, 0), 0, 0, api.Range{}, api.ErrRange)
	for _, d := range badDiameters {
		wantGrind(t, slab(1, 5, 9), d, 0, api.Range{}, api.ErrRange)
	}
	for _, s := range badSlabs() {
		for _, d := range append(badDiameters, 1, 5, 500000) {
			wantGrind(t, s, d, 0, api.Range{}, api.ErrArg)
		}
	}
}

// wantRound checks the results of Round.
func wantRound(t *testing.T, l []api.Slab, diameter int, grades []api.Grade, want api.Errno) {
	t.Helper()
	if g, e := crop.Round(l, diameter); !slices.Equal(g, grades) || e != want {
		t.Error("Round", l, diameter, g, e, "want", grades, want)
	}
}

// P7.2.
func TestRound(t *testing.T) {
	l := []api.Slab{slab(1, 5, 9), slab(1, 6, 9), slab(3000, 1, 5), slab(1, 6, 6), slab(1, 5, 6), slab(1, 7, 7), slab(1, 5, 5), slab(1, 0, 0)}
	wantRound(t, l, 6, []api.Grade{api.Possibly, api.Surely, api.Never, api.Surely, api.Possibly, api.Surely, api.Never, api.Never}, api.OK)
	wantRound(t, nil, 6, nil, api.OK)
	wantRound(t, []api.Slab{}, 500000, nil, api.OK)
	wantRound(t, slices.Repeat([]api.Slab{slab(1, 5, 500000)}, 60), 500000, slices.Repeat([]api.Grade{api.Possibly}, 60), api.OK)
	wantRound(t, []api.Slab{slab(1, 0, 1)}, 1, []api.Grade{api.Possibly}, api.OK)
}

// P7.2: errors, and their order.
func TestRoundErrors(t *testing.T) {
	good := []api.Slab{slab(1, 5, 9), slab(2, 6, 9), slab(3, 1, 5)}
	for _, d := range badDiameters {
		wantRound(t, good, d, nil, api.ErrRange)
		wantRound(t, nil, d, nil, api.ErrRange)
		wantRound(t, make([]api.Slab, 61), d, nil, api.ErrLong)
	}
	wantRound(t, slices.Repeat(good[:1], 61), 6, nil, api.ErrLong)
	for _, s := range badSlabs() {
		for i := range good {
			l := slices.Clone(good)
			l[i] = s
			wantRound(t, l, 6, nil, api.ErrArg)
			wantRound(t, l, 0, nil, api.ErrArg)
		}
	}
}

// P7.12, P7.2: what is kept and what is removed are a slab's section, whatever
// its diameter is; and a slab that Round takes surely is not too thin.
func TestNothingIsLostInGrinding(t *testing.T) {
	r := dice()
	for range 2000 {
		low := r.Intn(api.MaxDiameter)
		s := slab(1+r.Intn(api.MaxLength), low, low+r.Intn(api.MaxDiameter-low+1))
		d := 1 + r.Intn(api.MaxDiameter)
		kept, removed, e := crop.Grind(s, d)
		grades, _ := crop.Round([]api.Slab{s}, d)
		if (e == api.OK) != (grades[0] == api.Surely) || e != api.OK && e != api.ErrThin {
			t.Fatal("Grind or Round", s, d, e, grades)
		}
		if e != api.OK {
			continue
		}
		if kept != s.Length*d*d || kept+removed.Low != s.Length*s.Diameter.Low*s.Diameter.Low || kept+removed.High != s.Length*s.Diameter.High*s.Diameter.High || removed.Low < 0 {
			t.Fatal("Grind", s, d, kept, removed)
		}
	}
}
