package slice_test

import (
	"math"
	"slices"
	"testing"

	"boule/api"
	"boule/slice"
)

// wantPitches checks the results of Pitches.
func wantPitches(t *testing.T, w api.Wire, slurry api.Range, n int, target, pitches api.Range, want api.Errno) {
	t.Helper()
	if r, e := slice.Pitches(w, slurry, n, target); r != pitches || e != want {
		t.Error("Pitches", w, slurry, n, target, r, e, "want", pitches, want)
	}
}

// P8.5, and example 3.
func TestPitches(t *testing.T) {
	w, slurry := wire(), span(40, 50)
	wantPitches(t, w, slurry, 3, span(700, 720), span(872, 876), api.OK)
	wantPitches(t, w, slurry, 5, span(700, 720), at(872), api.OK)
	wantPitches(t, w, slurry, 6, span(700, 720), api.Range{}, api.ErrNone)
	wantPitches(t, w, slurry, 1, span(700, 712), at(872), api.OK)
	wantPitches(t, w, slurry, 1, span(700, 711), api.Range{}, api.ErrNone)
	wantPitches(t, w, slurry, 1, span(0, 20), span(173, 180), api.OK) // 172 is not valid with the wire.
	wantPitches(t, w, slurry, 1, span(1, 20), span(173, 180), api.OK)
	wantPitches(t, w, slurry, 1, span(2, 20), span(174, 180), api.OK)
	wantPitches(t, w, slurry, 1, span(0, 12), api.Range{}, api.ErrNone)
	wantPitches(t, w, slurry, 1, span(0, 13), at(173), api.OK)
	wantPitches(t, w, slurry, 3, span(0, api.MaxPitch), span(173, api.MaxPitch), api.OK)
	wantPitches(t, w, slurry, 2, span(9999827, api.MaxPitch), span(api.MaxPitch-1, api.MaxPitch), api.OK)
	wantPitches(t, w, slurry, 2, span(9999828, api.MaxPitch), at(api.MaxPitch), api.OK)
	wantPitches(t, w, slurry, 2, span(9999829, api.MaxPitch), api.Range{}, api.ErrNone)
	wantPitches(t, w, slurry, api.MaxWires, span(0, 300), span(173, 340), api.OK) // The wire may be worn away.
	wantPitches(t, w, slurry, 60, span(0, 300), span(173, 342), api.OK)
	wantPitches(t, w, slurry, 61, span(0, 300), span(173, 340), api.OK)
	exact := api.Wire{Diameter: at(120), Least: api.MaxPitch} // Whether it breaks plays no part.
	wantPitches(t, exact, at(40), api.MaxWires, at(700), at(860), api.OK)
	wantPitches(t, api.Wire{Diameter: at(1)}, at(0), 1, at(0), api.Range{}, api.ErrNone)
	wantPitches(t, api.Wire{Diameter: at(1)}, at(0), 1, at(1), at(2), api.OK)
	wantPitches(t, api.Wire{Diameter: at(api.MaxPitch)}, at(0), 1, span(0, api.MaxPitch), api.Range{}, api.ErrNone)
	wantPitches(t, api.Wire{Diameter: at(api.MaxPitch - 1), Wear: at(api.MaxPitch)}, at(0), api.MaxWires, span(0, api.MaxPitch), at(api.MaxPitch), api.OK)
	wantPitches(t, api.Wire{Diameter: at(api.MaxPitch)}, at(api.MaxPitch), 1, at(api.MaxPitch), api.Range{}, api.ErrNone)
}

// P8.5: errors, and their order.
func TestPitchesErrors(t *testing.T) {
	for _, n := range []int{0, -1, api.MaxWires + 1, math.MinInt, math.MaxInt} {
		wantPitches(t, wire(), span(40, 50), n, span(700, 720), api.Range{}, api.ErrRange)
		wantPitches(t, wire(), span(40, 50), n, at(0), api.Range{}, api.ErrRange)
	}
	for _, n := range []int{0, 3, api.MaxWires + 1} {
		for _, w := range badWires() {
			wantPitches(t, w, span(40, 50), n, span(700, 720), api.Range{}, api.ErrArg)
		}
		for _, bad := range badAmounts(api.MaxPitch) {
			wantPitches(t, wire(), bad, n, span(700, 720), api.Range{}, api.ErrArg)
			wantPitches(t, wire(), span(40, 50), n, bad, api.Range{}, api.ErrArg)
		}
	}
}

// diameters returns the diameters behind a groove, by those in it.
func diameters(in []int, wear api.Range) []int {
	set := map[int]bool{}
	for _, d := range in {
		for n := wear.Low; n <= wear.High; n++ {
			set[max(0, d-n)] = true
		}
	}
	var l []int
	for d := range set {
		l = append(l, d)
	}
	return l
}

// numbers returns all numbers of a range.
func numbers(r api.Range) []int {
	var l []int
	for n := r.Low; n <= r.High; n++ {
		l = append(l, n)
	}
	return l
}

// meets reports whether slices all have a thickness in a target, with a pitch
// and all that the wire and the slurry can be.
func meets(w api.Wire, slurry api.Range, n int, target api.Range, pitch int) bool {
	in := numbers(w.Diameter)
	for range n {
		for _, d := range in {
			for s := slurry.Low; s <= slurry.High; s++ {
				if thickness := pitch - d - s; thickness < target.Low || thickness > target.High {
					return false
				}
			}
		}
		in = diameters(in, w.Wear)
	}
	return true
}

// P8.5, P8.13: each pitch of small saws.
func TestAllPitches(t *testing.T) {
	r := dice()
	none := 0
	for range 2000 {
		w, b, _ := smallSaw(r)
		n, target := 1+r.Intn(5), anyRange(r, 0, 16)
		var good []int
		for pitch := 1; pitch < 40; pitch++ {
			if w.Diameter.High+b.Slurry.High < pitch && meets(w, b.Slurry, n, target, pitch) {
				good = append(good, pitch)
			}
		}
		x, e := slice.Pitches(w, b.Slurry, n, target)
		if e == api.ErrNone && x == (api.Range{}) && len(good) == 0 {
			none++
			continue
		}
		if e != api.OK || !slices.Equal(numbers(x), good) {
			t.Fatal("Pitches", w, b.Slurry, n, target, x, e, "want", good)
		}
	}
	if none < 200 || none > 1800 {
		t.Error("saws without a pitch", none)
	}
}

// P8.13: whatever the size, all slices are Surely in the target just with the
// pitches of the range.
func TestPitchesAsJudged(t *testing.T) {
	r := dice()
	found := 0
	for range 1000 {
		w := api.Wire{Diameter: anyRange(r, 1, 100000), Wear: anyRange(r, 0, 50)}
		b := api.Web{Slurry: anyRange(r, 0, 10000)}
		n, low := 1+r.Intn(50), r.Intn(api.MaxPitch)
		target := span(low, min(api.MaxPitch, low+r.Intn(200000)))
		x, e := slice.Pitches(w, b.Slurry, n, target)
		tries := []int{x.Low, x.High, x.Low - 1, x.High + 1}
		if e != api.OK {
			tries = []int{low + w.Diameter.High + b.Slurry.High, 1 + r.Intn(api.MaxPitch)}
		} else {
			found++
		}
		b.Grooves = n + 1
		for _, b.Pitch = range tries {
			if slice.Check(w, b, api.MaxAlong) != api.OK {
				continue
			}
			want := e == api.OK && inside(at(b.Pitch), x)
			g := judged(t, w, b, api.MaxAlong, target)
			if len(g) != n {
				t.Fatal("slices", w, b, g)
			}
			if all := !slices.ContainsFunc(g, func(x api.Grade) bool { return x != api.Surely }); all != want {
				t.Fatal(w, b, n, target, x, e, g)
			}
		}
	}
	if found < 200 {
		t.Error("few pitches", found)
	}
}

// wantRuns checks the results of Runs.
func wantRuns(t *testing.T, w api.Wire, b api.Web, length, sure, possible int) {
	t.Helper()
	if x := runs(t, w, b, length); x != span(sure, possible) {
		t.Error("Runs", w, b, length, x, "want", sure, possible)
	}
}

// P8.6, and example 4.
func TestRuns(t *testing.T) {
	wantRuns(t, wire(), web(), 3000, 1, 3)
	wantRuns(t, wire(), web(), 2800, 2, 4) // Three grooves.
	wantRuns(t, wire(), web(), 101, 6, 13) // 120 - 5 * 2, and 122 - 12.
	wantRuns(t, wire(), web(), 100, 1000, 1000)
	always := wire()
	always.Wear.Low = 0
	wantRuns(t, always, web(), 3000, 1, 1000)
	always.Wear.High = 0
	wantRuns(t, always, web(), 3000, 1000, 1000)
	never := wire()
	never.Least = 123
	wantRuns(t, never, web(), 3000, 0, 0)
	wantRuns(t, never, web(), 100, 1000, 1000)
	never.Least = 121
	wantRuns(t, never, web(), 3000, 0, 0)
	wantRuns(t, never, web(), 101, 0, 2)
	away := api.Wire{Diameter: at(5), Wear: at(api.MaxPitch)}
	wantRuns(t, away, web(), 3000, 1000, 1000) // No wire is thinner than 0.
	away.Least = 1
	wantRuns(t, away, web(), 3000, 0, 0)
	wantRuns(t, away, web(), 101, 1, 1)
}

// P8.6: the number of runs is limited, and no sooner.
func TestRunsLimit(t *testing.T) {
	w := api.Wire{Diameter: span(1998, 1999), Wear: at(2), Least: 2}
	b := api.Web{Pitch: 2100, Grooves: 4}
	wantRuns(t, w, b, 1, 999, 999) // In the block 999 the wire has 0 to 1.
	w.Least = 1
	wantRuns(t, w, b, 1, 999, 1000)
	w.Diameter = span(2000, 2002)
	wantRuns(t, w, b, 1, 1000, 1000)
	great := api.Wire{Diameter: at(5000000), Wear: span(50, 60), Least: 1}
	wantRuns(t, great, api.Web{Pitch: 5000001, Grooves: api.MaxWires}, api.MaxAlong, 694, 833) // 120 grooves.
}

// plainRuns cuts with all wires that there can be. Those that break are counted,
// and cut no more.
func plainRuns(w api.Wire, b api.Web, length int) (sure, possible int) {
	var counts seen
	used, in := plainUsed(b, length), numbers(w.Diameter)
	for n := range api.MaxRuns {
		for range used {
			var whole []int
			for _, d := range in {
				if d < w.Least {
					counts.add(n)
				} else {
					whole = append(whole, d)
				}
			}
			in = diameters(whole, w.Wear)
		}
	}
	if len(in) > 0 {
		counts.add(api.MaxRuns)
	}
	return counts.Low, counts.High
}

// P8.6: as all courses say.
func TestAllRuns(t *testing.T) {
	r := dice()
	apart, endless := 0, 0
	for range 600 {
		w, b, length := smallSaw(r)
		if r.Intn(2) == 0 {
			w.Diameter = anyRange(r, 20, 60)
			b.Pitch = 80
			length = 1 + r.Intn(300)
		}
		sure, possible := plainRuns(w, b, length)
		wantRuns(t, w, b, length, sure, possible)
		if sure < possible {
			apart++
		}
		if possible == api.MaxRuns {
			endless++
		}
	}
	if apart < 50 || endless < 50 || endless > 500 {
		t.Error("few runs of some kinds", apart, endless)
	}
}

// P8.6: whatever the size, one block after another with the same wire.
func TestRunsByOneWire(t *testing.T) {
	r := dice()
	for range 200 {
		w, b, length := anySaw(r)
		ends := [2]int{}
		for i, wide := range []bool{false, true} {
			next := w
			for ends[i] < api.MaxRuns {
				c := extremeCourse(next, b, length, wide)
				wires := plainWires(c)
				if used := len(c.Wear); used > 0 && wires[used-1] < w.Least {
					break
				}
				ends[i]++
				next.Diameter = at(wires[len(c.Wear)])
			}
		}
		wantRuns(t, w, b, length, ends[0], ends[1])
	}
}
