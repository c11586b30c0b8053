package crop_test

import (
	"slices"
	"testing"

	"boule/api"
	"boule/crop"
)

// P1, R2, R5: whatever the integers, calls come back, and with an error all
// other results are zero values.
func TestHostileIntegers(t *testing.T) {
	for _, a := range hostile {
		for _, b := range hostile {
			for _, c := range hostile {
				hostileSlab(t, a, b, c)
				hostileTilt(t, a, b, c)
			}
			hostileBlocks(t, a, b)
			for _, c := range []int{0, 1, hostile[0], hostile[len(hostile)-1]} {
				hostileBoule(t, made([2]int{a, b}), saw(4, 8, 1))
				hostileBoule(t, made([2]int{5, 7}, [2]int{a, 3}, [2]int{b, c}), saw(2, 5, c))
				hostileBoule(t, example(), saw(a, b, c))
				hostileBoule(t, example(), saw(c, a, b))
			}
		}
	}
}

func hostileSlab(t *testing.T, a, b, c int) {
	t.Helper()
	for _, s := range []api.Slab{slab(a, b, c), slab(5, a, b), slab(a, 5, b)} {
		if kept, removed, e := crop.Grind(s, c); e != api.OK && (kept != 0 || removed != api.Range{}) || e == api.OK && kept < 1 {
			t.Error("Grind", s, c, kept, removed, e)
		}
		if g, e := crop.Round([]api.Slab{s}, c); (e == api.OK) != (len(g) == 1) {
			t.Error("Round", s, c, g, e)
		}
	}
}

func hostileTilt(t *testing.T, a, b, c int) {
	t.Helper()
	for _, x := range []api.Tilt{{X: span(a, b), Y: at(c)}, {X: at(a), Y: span(b, c)}} {
		for _, s := range []api.Swivel{{X: c, Y: a}, {X: 5, Y: b}} {
			if r, e := crop.Off(x, s); e != api.OK && r != (api.Range{}) || r.Low < 0 || r.Low > r.High {
				t.Error("Off", x, s, r, e)
			}
		}
		l := []api.Tilt{tilt(0, 1), x}
		s, turned := crop.Turn(l, c)
		if turned != api.OK && s != (api.Swivel{}) {
			t.Error("Turn", l, c, s, turned)
		}
		n, e := crop.Conflict(l, c)
		if (e == api.OK) != (turned == api.ErrTurn) || (e == api.OK) != (len(n) > 0) {
			t.Error("Conflict", l, c, n, e)
		}
	}
}

func hostileBlocks(t *testing.T, a, b int) {
	t.Helper()
	for _, blocks := range [][]api.Block{list(a, b), list(0, 4, a, b), list(a, b, 14, 18), list(a, b, b, a)} {
		total, ok := plainTotal(example(), saw(4, 8, 1), blocks)
		n, e := crop.Total(example(), saw(4, 8, 1), blocks)
		if (e == api.OK) != ok || ok && n != total || !ok && (n != 0 || e != api.ErrCrop) {
			t.Error("Total", blocks, n, e)
		}
		c, e := crop.Account(example(), saw(4, 8, 1), blocks)
		if (e == api.OK) != ok || !ok && (c != api.Cropped{} || e != api.ErrCrop) {
			t.Error("Account", blocks, c, e)
		}
	}
	l := make([]int, 27)
	l[0], l[1] = a, b
	if ok, e := crop.Proves(example(), saw(4, 8, 1), l); ok || e != api.OK {
		t.Error("Proves", l, ok, e)
	}
}

func hostileBoule(t *testing.T, l []api.Stretch, s api.Saw) {
	t.Helper()
	want := crop.Check(l, s)
	if lengthOf(l) > 50 && want == api.OK { // Others are enough to see what long ones do.
		return
	}
	n, e := crop.Value(l, s, api.Block{From: 0, To: 5})
	if want != api.OK && (n != 0 || e != want) {
		t.Error("Value", l, s, n, e)
	}
	b, total, e := crop.Best(l, s)
	if e != want || want != api.OK && (len(b) != 0 || total != 0) {
		t.Error("Best", l, s, b, total, e)
	}
	x, e := crop.Bounds(l, s)
	if e != want || want != api.OK && len(x) != 0 || want == api.OK && x[0] != total {
		t.Error("Bounds", l, s, x, e)
	}
	if ok, e := crop.Proves(l, s, x); e != want || ok != (want == api.OK) {
		t.Error("Proves", l, s, ok, e)
	}
}

// R3: no list and an empty one.
func TestEmptyLists(t *testing.T) {
	for _, l := range [][]api.Stretch{nil, {}} {
		if b, n := best(t, l, saw(4, 8, 1)); len(b) != 0 || n != 0 {
			t.Error("Best", b, n)
		}
		for _, blocks := range [][]api.Block{nil, {}} {
			if n, e := crop.Total(l, saw(4, 8, 1), blocks); n != 0 || e != api.OK {
				t.Error("Total", n, e)
			}
			if c, e := crop.Account(l, saw(4, 8, 1), blocks); c != (api.Cropped{}) || e != api.OK {
				t.Error("Account", c, e)
			}
		}
		if proves(t, l, saw(4, 8, 1), nil) || proves(t, l, saw(4, 8, 1), []int{}) {
			t.Error("Proves")
		}
	}
}

// R4: no argument is changed.
func TestArgumentsStayAsTheyAre(t *testing.T) {
	l, s, blocks, least := example(), saw(4, 8, 1), list(0, 4, 5, 10), bounds(t, example(), saw(4, 8, 1))
	slabs, tilts, numbers := []api.Slab{slab(1, 9, 9), slab(2, 5, 7)}, []api.Tilt{tilt(0, 0), tilt(7, 0), tilt(1, 0)}, slices.Clone(least)
	crop.Round(slabs, 6)
	crop.Check(l, s)
	crop.Value(l, s, blocks[0])
	crop.Total(l, s, blocks)
	crop.Best(l, s)
	crop.Bounds(l, s)
	crop.Proves(l, s, numbers)
	crop.Account(l, s, blocks)
	crop.Turn(tilts, 4)
	crop.Conflict(tilts, 3)
	if !slices.Equal(l, example()) || !slices.Equal(blocks, list(0, 4, 5, 10)) || !slices.Equal(numbers, least) {
		t.Error(l, blocks, numbers)
	}
	if !slices.Equal(slabs, []api.Slab{slab(1, 9, 9), slab(2, 5, 7)}) || !slices.Equal(tilts, []api.Tilt{tilt(0, 0), tilt(7, 0), tilt(1, 0)}) {
		t.Error(slabs, tilts)
	}
}

// R4: what is done to results changes nothing, and a call that is made again returns the same.
func TestResultsAreNewMemory(t *testing.T) {
	for range 2 {
		b, _ := best(t, example(), saw(4, 8, 1))
		if !slices.Equal(b, list(0, 4, 5, 10, 14, 18, 19, 26)) {
			t.Error("Best", b)
		}
		x := bounds(t, example(), saw(4, 8, 1))
		if x[0] != 78 || x[26] != 0 {
			t.Error("Bounds", x)
		}
		g, _ := crop.Round([]api.Slab{slab(1, 9, 9)}, 6)
		if !slices.Equal(g, []api.Grade{api.Surely}) {
			t.Error("Round", g)
		}
		n, _ := crop.Conflict([]api.Tilt{tilt(0, 0), tilt(7, 0)}, 3)
		if !slices.Equal(n, []int{0, 1}) {
			t.Error("Conflict", n)
		}
		b[0], x[0], x[26], g[0], n[0] = api.Block{}, 9, 9, 9, 9
	}
}
