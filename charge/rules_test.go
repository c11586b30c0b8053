package charge_test

import (
	"slices"
	"testing"

	"boule/api"
	"boule/charge"
)

// P1, R2, R5: whatever the integers, calls come back, and with an error all
// other results are zero values.
func TestHostileIntegers(t *testing.T) {
	for _, a := range hostile {
		for _, b := range hostile {
			for _, c := range hostile {
				hostileRecipe(t, a, b, c)
				hostileStore(t, a, b, c)
			}
		}
	}
}

func hostileRecipe(t *testing.T, a, b, c int) {
	t.Helper()
	for _, p := range []api.Recipe{
		{Lots: []api.Lot{{Count: a, Mass: b, Content: api.Bounds{span(c, a)}, Cost: c}}, Mass: span(0, api.MaxMelt), Target: wide()},
		{Lots: []api.Lot{{Count: 2, Mass: a}, {Count: 1, Mass: 5, Content: api.Bounds{span(0, b), span(b, b)}}}, Mass: span(b, c), Target: api.Bounds{span(a, b), span(0, c)}},
		example(),
	} {
		counts := []int{a, b}[:min(2, len(p.Lots))]
		proof := []api.Split{{Lot: a, At: b, Reason: c}, {Lot: -1, Reason: c}, {Lot: -1, Reason: a}}
		bad := charge.Check(p) != api.OK
		if x, e := charge.Weigh(p, counts); e != api.OK && x != (api.Pile{}) || bad && e == api.OK {
			t.Error("Weigh", p, counts, x, e)
		}
		if k, e := charge.Fits(p, counts); e != api.OK && k != 0 || k < -1 || k > 7 || bad && e == api.OK {
			t.Error("Fits", p, counts, k, e)
		}
		l, cost, best := charge.Best(p)
		if best != api.OK && (len(l) != 0 || cost != 0) || bad && best == api.OK {
			t.Error("Best", p, l, cost, best)
		}
		nodes, e := charge.Refute(p)
		if e != api.OK && len(nodes) != 0 || bad && e == api.OK {
			t.Error("Refute", p, nodes, e)
		}
		if (e == api.OK) != (best == api.ErrCharge) {
			t.Error("either, or", p, best, e)
		}
		if ok, e := charge.Refutes(p, proof); e != api.OK && ok || ok && best == api.OK || bad && e == api.OK {
			t.Error("Refutes", p, proof, ok, e)
		}
	}
}

func hostileStore(t *testing.T, a, b, c int) {
	t.Helper()
	s := family(t)
	left, drawn := s.Sums()
	changed := false
	if n, e := s.Return(api.Lot{Count: a, Mass: b, Content: api.Bounds{span(0, c)}}, []int{c, b}); e == api.OK {
		changed = true
	} else if n != 0 {
		t.Error("Return", a, b, c, n, e)
	}
	if e := s.Draw([]api.Pick{{Lot: a, N: b}, {Lot: b, N: c}}); e == api.OK {
		changed = true
	}
	if l, d := s.Sums(); changed == (l == left && d == drawn) {
		t.Error("changed, or not", a, b, c, l, d)
	}
}

// R4: no argument is changed.
func TestArgumentsStayAsTheyAre(t *testing.T) {
	p, counts := example(), []int{3, 1}
	tooMuch := example()
	tooMuch.Mass = span(550, 580)
	proof, _ := charge.Refute(tooMuch)
	nodes := slices.Clone(proof)
	charge.Check(p)
	charge.Weigh(p, counts)
	charge.Fits(p, counts)
	if l, _, e := charge.Best(p); e == api.OK {
		l[0] = 99
	}
	charge.Refute(p)
	if ok, e := charge.Refutes(tooMuch, proof); !ok || e != api.OK || len(proof) < 3 {
		t.Error("Refutes", proof, ok, e)
	}
	if !sameRecipe(p, example()) || !slices.Equal(counts, []int{3, 1}) || !slices.Equal(proof, nodes) {
		t.Error(p, counts, proof)
	}

	s := filled(t, 5, 5)
	parents, picks := []int{2, 1}, []api.Pick{{Lot: 2, N: 1}, {Lot: 1, N: 2}}
	s.Return(piece(5), parents)
	s.Draw(picks)
	if !slices.Equal(parents, []int{2, 1}) || !slices.Equal(picks, []api.Pick{{Lot: 2, N: 1}, {Lot: 1, N: 2}}) {
		t.Error(parents, picks)
	}
}

// R4: what is done to arguments and results afterwards changes nothing.
func TestResultsAreNewMemory(t *testing.T) {
	for range 2 {
		l, _, _ := charge.Best(example())
		if !slices.Equal(l, []int{3, 1}) {
			t.Error("Best", l)
		}
		l[0], l[1] = 7, 7
		proof, _ := charge.Refute(even())
		if proof[0] != (api.Split{Lot: 0, At: 1}) {
			t.Error("Refute", proof)
		}
		proof[0].At = 7
	}

	s := family(t)
	parents := []int{4}
	wantNumber(t, s, piece(5), parents, 5, api.OK)
	parents[0] = 2
	for range 2 {
		wantList(t, s.Trace, 5, 1, 2, 3, 4)
		wantList(t, s.Made, 3, 4, 5)
		trace, _ := s.Trace(5)
		made, _ := s.Made(3)
		trace[0], made[0] = 99, 99
	}
}

// All of this depends on the arguments alone: a call that is made again returns the same.
func TestCallsAgain(t *testing.T) {
	r := dice()
	for range 200 {
		p := anyRecipe(r)
		l, cost, e := charge.Best(p)
		again, cost2, e2 := charge.Best(p)
		if !slices.Equal(l, again) || cost != cost2 || e != e2 {
			t.Fatal("Best", p)
		}
		proof, e := charge.Refute(p)
		proof2, e2 := charge.Refute(p)
		if !slices.Equal(proof, proof2) || e != e2 {
			t.Fatal("Refute", p)
		}
	}
}
