package slice_test

import (
	"math"
	"slices"
	"testing"

	"boule/api"
	"boule/slice"
)

// limits are wires and webs that are just valid.
func limits() ([]api.Wire, []api.Web) {
	wires := []api.Wire{
		wire(),
		{Diameter: at(1)},
		{Diameter: span(1, 800), Wear: span(0, api.MaxPitch), Least: api.MaxPitch},
		{Diameter: at(800), Wear: at(api.MaxPitch)},
	}
	webs := []api.Web{
		web(),
		{Pitch: 801, Grooves: 1},
		{Pitch: api.MaxPitch, Grooves: api.MaxWires, Start: api.MaxAlong, Slurry: span(0, api.MaxPitch-801)},
		{Pitch: api.MaxPitch, Grooves: 1, Slurry: at(api.MaxPitch - 801)},
	}
	return wires, webs
}

// badWires are not valid.
func badWires() []api.Wire {
	var l []api.Wire
	change := func(f func(w *api.Wire)) {
		w := wire()
		f(&w)
		l = append(l, w)
	}
	for _, r := range append(badAmounts(api.MaxPitch), at(0), span(0, 122)) {
		change(func(w *api.Wire) { w.Diameter = r })
	}
	for _, r := range badAmounts(api.MaxPitch) {
		change(func(w *api.Wire) { w.Wear = r })
	}
	for _, n := range []int{-1, api.MaxPitch + 1, math.MinInt, math.MaxInt} {
		change(func(w *api.Wire) { w.Least = n })
	}
	return l
}

// badWebs are not valid.
func badWebs() []api.Web {
	var l []api.Web
	change := func(f func(b *api.Web)) {
		b := web()
		f(&b)
		l = append(l, b)
	}
	for _, n := range []int{0, -1, math.MinInt, api.MaxPitch + 1, math.MaxInt} {
		change(func(b *api.Web) { b.Pitch = n })
	}
	for _, n := range []int{0, -1, math.MinInt, api.MaxWires + 1, math.MaxInt} {
		change(func(b *api.Web) { b.Grooves = n })
	}
	for _, n := range []int{-1, math.MinInt, api.MaxAlong + 1, math.MaxInt} {
		change(func(b *api.Web) { b.Start = n })
	}
	for _, r := range badAmounts(api.MaxPitch) {
		change(func(b *api.Web) { b.Slurry = r })
	}
	return l
}

// wantCheck checks what all functions with a wire, a web and a length return.
func wantCheck(t *testing.T, w api.Wire, b api.Web, length int, want api.Errno) {
	t.Helper()
	if e := slice.Check(w, b, length); e != want {
		t.Error("Check", w, b, length, e, "want", want)
	}
	x, e := slice.Predict(w, b, length)
	if e != want || want != api.OK && !sameSliced(x, api.Sliced{}) {
		t.Error("Predict", w, b, length, x, e, "want", want)
	}
	sure, possible, e := slice.Runs(w, b, length)
	if e != want || want != api.OK && (sure != 0 || possible != 0) {
		t.Error("Runs", w, b, length, sure, possible, e, "want", want)
	}
	g, e := slice.Judge(w, b, length, span(0, 5))
	if e != want || want != api.OK && len(g) != 0 {
		t.Error("Judge", w, b, length, g, e, "want", want)
	}
	if want == api.OK {
		return
	}
	if g, e := slice.Judge(w, b, length, span(5, 0)); e != want || len(g) != 0 {
		t.Error("Judge with no target", w, b, length, g, e, "want", want)
	}
	for _, c := range []api.Cutting{{}, {Diameter: 121, Wear: []int{1, 1, 1, 1}, Slurry: []int{40, 40, 40, 40}}, {Diameter: -1, Wear: []int{9}}} {
		if p, n, e := slice.Follow(w, b, length, c); e != want || n != 0 || !sameParts(p, api.Parts{}) {
			t.Error("Follow", w, b, length, c, p, n, e, "want", want)
		}
	}
}

// P8.1: what is just valid.
func TestCheck(t *testing.T) {
	wires, webs := limits()
	for _, w := range wires {
		for _, b := range webs {
			if w.Diameter.High+b.Slurry.High >= b.Pitch {
				t.Fatal("not valid together", w, b)
			}
			for _, length := range []int{1, 2, 3000, api.MaxAlong} {
				wantCheck(t, w, b, length, api.OK)
			}
		}
	}
}

// P8.1: errors, and their order.
func TestCheckErrors(t *testing.T) {
	wires, webs := limits()
	for _, length := range badLengths {
		for i := range wires {
			wantCheck(t, wires[i], webs[i], length, api.ErrRange)
		}
	}
	for _, length := range append(slices.Clone(badLengths), 1, 3000, api.MaxAlong) {
		for _, w := range badWires() {
			wantCheck(t, w, web(), length, api.ErrArg)
		}
		for _, b := range badWebs() {
			wantCheck(t, wire(), b, length, api.ErrArg)
		}
	}
}

// P8.1: a wire and a web that are valid, but perhaps not together.
func TestCheckTogether(t *testing.T) {
	for _, c := range []struct {
		diameter, slurry api.Range
		pitch            int
		want             api.Errno
	}{
		{span(120, 122), span(40, 50), 173, api.OK},
		{span(120, 122), span(40, 50), 172, api.ErrArg},
		{span(120, 122), span(40, 50), 171, api.ErrArg},
		{span(120, 122), span(40, 50), 1, api.ErrArg},
		{at(1), at(0), 2, api.OK},
		{at(1), at(0), 1, api.ErrArg},
		{at(api.MaxPitch), at(0), api.MaxPitch, api.ErrArg},
		{at(api.MaxPitch - 1), at(0), api.MaxPitch, api.OK},
		{at(1), at(api.MaxPitch - 1), api.MaxPitch, api.ErrArg},
		{span(1, api.MaxPitch), span(0, api.MaxPitch), api.MaxPitch, api.ErrArg},
	} {
		w := api.Wire{Diameter: c.diameter}
		b := api.Web{Pitch: c.pitch, Grooves: 3, Slurry: c.slurry}
		wantCheck(t, w, b, 5000, c.want)
		if c.want != api.OK {
			wantCheck(t, w, b, 0, c.want)
		}
	}
}
