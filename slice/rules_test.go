package slice_test

import (
	"slices"
	"testing"

	"boule/api"
	"boule/slice"
)

// P1, R2, R5: whatever the integers, calls come back, and with an error all
// other results are zero values.
func TestHostileIntegers(t *testing.T) {
	for _, a := range hostile {
		for _, b := range hostile {
			for _, c := range []int{hostile[0], 0, 1, 900, api.MaxPitch, hostile[len(hostile)-1]} {
				for _, w := range []api.Wire{wire(), {Diameter: span(a, b), Wear: span(0, c), Least: 5}, {Diameter: at(5), Wear: span(a, b), Least: c}} {
					for _, web := range []api.Web{web(), {Pitch: a, Grooves: b, Start: c, Slurry: at(1)}, {Pitch: 900, Grooves: c, Start: a, Slurry: span(0, b)}} {
						for _, length := range []int{a, b, 3000} {
							hostileSaw(t, w, web, length, a, b, c)
						}
					}
					hostilePitches(t, w, a, b, c)
				}
				hostileForce(t, a, b, c)
				hostileParts(t, a, b, c)
			}
		}
	}
}

func hostileSaw(t *testing.T, w api.Wire, b api.Web, length, x, y, z int) {
	t.Helper()
	bad := slice.Check(w, b, length)
	got, e := slice.Predict(w, b, length)
	if e != bad || e != api.OK && !sameSliced(got, api.Sliced{}) {
		t.Error("Predict", w, b, length, got, e)
	}
	sure, possible, e := slice.Runs(w, b, length)
	if e != bad || sure < 0 || sure > possible || possible > api.MaxRuns || e != api.OK && possible != 0 {
		t.Error("Runs", w, b, length, sure, possible, e)
	}
	g, e := slice.Judge(w, b, length, span(x, y))
	if bad != api.OK && e != bad || e == api.OK && (x > y || len(g) != len(got.Slices)) || e != api.OK && len(g) != 0 {
		t.Error("Judge", w, b, length, x, y, g, e)
	}
	for n := range 3 {
		c := api.Cutting{Diameter: x, Wear: []int{y, z}[:n], Slurry: []int{z, x}[:n]}
		p, d, e := slice.Follow(w, b, length, c)
		if bad != api.OK && e != bad || e != api.OK && (d != 0 || !sameParts(p, api.Parts{})) {
			t.Error("Follow", w, b, length, c, p, d, e)
		}
	}
}

func hostilePitches(t *testing.T, w api.Wire, a, b, c int) {
	t.Helper()
	for _, target := range []api.Range{span(0, 1000), span(a, b)} {
		r, e := slice.Pitches(w, span(0, c), a, target)
		if e != api.OK && r != (api.Range{}) || e == api.OK && (r.Low < 1 || r.Low > r.High || r.High > api.MaxPitch) {
			t.Error("Pitches", w, c, a, target, r, e)
		}
	}
}

func hostileForce(t *testing.T, a, b, c int) {
	t.Helper()
	for _, stiffness := range []api.Range{span(a, b), span(0, c), at(5)} {
		if r, e := slice.Bow(stiffness, b, c); e != api.OK && r != (api.Range{}) || r.Low < 0 || r.Low > r.High {
			t.Error("Bow", stiffness, b, c, r, e)
		}
		if n, e := slice.Feed(stiffness, c, a); e != api.OK && n != 0 || n < 0 || n > api.MaxForce {
			t.Error("Feed", stiffness, c, a, n, e)
		}
	}
}

func hostileParts(t *testing.T, a, b, c int) {
	t.Helper()
	for _, p := range []api.Parts{{Top: a}, {Top: a, Bottom: b, Kerfs: []int{c}}, {Top: 1, Slices: []int{a}, Kerfs: []int{b, c}}, {Slices: []int{a, b}, Kerfs: []int{c, c}}} {
		x, e := divided(c, p)
		if e != api.OK && !sameParts(x, api.Parts{}) || e == api.OK && sum(inOrder(x)) != c {
			t.Error("Divide", c, p, x, e)
		}
	}
	n := name("K1", a, b)
	s, e := slice.Name(n)
	if e != api.OK && s != "" {
		t.Error("Name", n, s, e)
	}
	if x, f := slice.ParseName(s); e == api.OK && (x != n || f != api.OK) {
		t.Error("ParseName", s, x, f)
	}
}

// R3: no list and an empty one.
func TestEmptyLists(t *testing.T) {
	for _, l := range [][]int{nil, {}} {
		p, n, e := slice.Follow(wire(), web(), 100, api.Cutting{Diameter: 121, Wear: l, Slurry: l})
		if !sameParts(p, api.Parts{Top: 100}) || n != 121 || e != api.OK {
			t.Error("Follow", p, n, e)
		}
		wantDivide(t, 7, api.Parts{Top: 3, Kerfs: l, Slices: l}, api.Parts{Top: 7}, api.OK)
		wantDivide(t, 7, api.Parts{Kerfs: []int{2}, Slices: l}, api.Parts{Kerfs: []int{7}}, api.OK)
	}
}

// R4: no argument is changed.
func TestArgumentsStayAsTheyAre(t *testing.T) {
	wear, slurry := []int{1, 2, 1, 2}, []int{40, 41, 42, 43}
	p, _ := followed(t, wire(), web(), 3000, api.Cutting{Diameter: 121, Wear: wear, Slurry: slurry})
	if !slices.Equal(wear, []int{1, 2, 1, 2}) || !slices.Equal(slurry, []int{40, 41, 42, 43}) {
		t.Error("Follow", wear, slurry)
	}
	same := api.Parts{Slices: slices.Clone(p.Slices), Kerfs: slices.Clone(p.Kerfs), Top: p.Top, Bottom: p.Bottom}
	if x, e := divided(1000, p); e != api.OK || sum(inOrder(x)) != 1000 || !sameParts(p, same) {
		t.Error("Divide", p, x, e)
	}
}

// R4: what is done to results changes nothing, and a call that is made again
// returns the same.
func TestResultsAreNewMemory(t *testing.T) {
	wear, slurry := []int{1, 2, 1, 2}, []int{40, 41, 42, 43}
	lengths := api.Parts{Top: 1, Kerfs: []int{1, 1}, Slices: []int{6}, Bottom: 1}
	for range 2 {
		x := predicted(t, wire(), web(), 3000)
		if !slices.Equal(x.Slices, []api.Range{span(728, 740), span(729, 742), span(730, 744)}) {
			t.Error("Predict", x)
		}
		p, n := followed(t, wire(), web(), 3000, api.Cutting{Diameter: 121, Wear: wear, Slurry: slurry})
		if !sameParts(p, api.Parts{Slices: []int{739, 739, 740}, Kerfs: []int{161, 161, 160, 160}, Top: 100, Bottom: 40}) || n != 115 {
			t.Error("Follow", p, n)
		}
		g := judged(t, wire(), web(), 3000, span(728, 741))
		if !slices.Equal(g, []api.Grade{api.Surely, api.Possibly, api.Possibly}) {
			t.Error("Judge", g)
		}
		d, _ := divided(100, lengths)
		if !sameParts(d, api.Parts{Top: 10, Kerfs: []int{10, 10}, Slices: []int{60}, Bottom: 10}) {
			t.Error("Divide", d)
		}
		x.Slices[0], p.Slices[0], p.Kerfs[0], g[0], d.Kerfs[0], d.Slices[0] = api.Range{}, 9, 9, 9, 9, 9
		p.Slices, p.Kerfs = append(p.Slices, 7), append(p.Kerfs, 7)
		if p.Slices[3] != 7 || p.Kerfs[4] != 7 || p.Slices[0] != 9 || p.Kerfs[0] != 9 {
			t.Error("lists share memory", p)
		}
	}
}
