package charge_test

import (
	"math"
	"math/rand"
	"slices"
	"testing"

	"boule/api"
	"boule/charge"
)

// none reports whether the condition k is true of no charge from least to most.
func none(p api.Recipe, least, most []int, k int) bool {
	for _, c := range between(least, most) {
		if holds(p, c, k) {
			return false
		}
	}
	return true
}

// with returns a list with another number at i.
func with(l []int, i, n int) []int {
	l = slices.Clone(l)
	l[i] = n
	return l
}

// plainRefute builds a proof by looking at all charges of each box.
func plainRefute(p api.Recipe, least, most []int) []api.Split {
	for k := range 8 {
		if none(p, least, most, k) {
			return []api.Split{{Lot: -1, Reason: k}}
		}
	}
	for i := range least {
		if least[i] < most[i] {
			at := (least[i] + most[i]) / 2
			left := plainRefute(p, least, with(most, i, at))
			right := plainRefute(p, with(least, i, at+1), most)
			return slices.Concat([]api.Split{{Lot: i, At: at}}, left, right)
		}
	}
	panic("a charge meets the recipe")
}

// plainTree returns how many nodes the tree has with which a list begins, or 0
// if it begins with none, or one that proves nothing.
func plainTree(p api.Recipe, least, most []int, l []api.Split) int {
	if len(l) == 0 {
		return 0
	}
	x := l[0]
	switch {
	case x.Lot == -1:
		if x.At == 0 && x.Reason >= 0 && x.Reason <= 7 && none(p, least, most, x.Reason) {
			return 1
		}
		return 0
	case x.Lot < 0 || x.Lot >= len(p.Lots) || x.Reason != 0 || x.At < least[x.Lot] || x.At >= most[x.Lot]:
		return 0
	}
	left := plainTree(p, least, with(most, x.Lot, x.At), l[1:])
	if left == 0 {
		return 0
	}
	right := plainTree(p, with(least, x.Lot, x.At+1), most, l[1+left:])
	if right == 0 {
		return 0
	}
	return 1 + left + right
}

// proves reports whether a list is a proof.
func proves(p api.Recipe, l []api.Split) bool {
	least, most := ends(p)
	return len(l) > 0 && plainTree(p, least, most, l) == len(l)
}

// wantRefutes checks the results of Refutes.
func wantRefutes(t *testing.T, name string, p api.Recipe, proof []api.Split, want bool) {
	t.Helper()
	if ok, e := charge.Refutes(p, proof); ok != want || e != api.OK {
		t.Error(name, ok, e)
	}
}

// even is a recipe that only a half piece would meet: 500 to 599 of 200 mg each.
func even() api.Recipe { return masses(span(500, 599), [2]int{3, 200}) }

// P2.5, and example 2.
func TestRefute(t *testing.T) {
	tooMuch := example()
	tooMuch.Mass = span(2000, 3000)
	pure := example()
	pure.Lots = pure.Lots[1:]
	for _, c := range []struct {
		name string
		p    api.Recipe
		want []api.Split
	}{
		{"example 2", tooMuch, []api.Split{{Lot: -1, At: 0, Reason: 0}}},
		{"nothing of the dopant", pure, []api.Split{{Lot: 0, At: 2}, {Lot: -1, Reason: 0}, {Lot: -1, Reason: 3}}},
		{"even masses", even(), []api.Split{{Lot: 0, At: 1}, {Lot: -1, Reason: 0}, {Lot: 0, At: 2}, {Lot: -1, Reason: 0}, {Lot: -1, Reason: 1}}},
		{"no lots", masses(span(1, 5)), []api.Split{{Lot: -1, Reason: 0}}},
		{"no pieces", masses(span(1, 5), [2]int{0, 3}), []api.Split{{Lot: -1, Reason: 0}}},
		{"no pieces of the first lot", masses(span(2, 2), [2]int{0, 9}, [2]int{1, 3}), []api.Split{{Lot: 1, At: 0}, {Lot: -1, Reason: 0}, {Lot: -1, Reason: 1}}},
	} {
		if proof, e := charge.Refute(c.p); !slices.Equal(proof, c.want) || e != api.OK {
			t.Error(c.name, proof, e)
		}
		wantRefutes(t, c.name, c.p, c.want, true)
	}
}

// P2.5: each condition as a reason. Without its piece a charge has no mass.
func TestReasons(t *testing.T) {
	piece := api.Lot{Count: 1, Mass: 100, Content: api.Bounds{span(3, 3), span(3, 3), span(3, 3)}}
	all := span(30000, 30000)
	for k, change := range []func(p *api.Recipe){
		1: func(p *api.Recipe) { p.Mass = span(99, 99) },
		2: func(p *api.Recipe) { p.Target[0] = span(0, 29999) },
		3: func(p *api.Recipe) { p.Target[0] = span(30001, 40000) },
		4: func(p *api.Recipe) { p.Target[1] = span(0, 29999) },
		5: func(p *api.Recipe) { p.Target[1] = span(30001, 40000) },
		6: func(p *api.Recipe) { p.Target[2] = span(0, 29999) },
		7: func(p *api.Recipe) { p.Target[2] = span(30001, 40000) },
	} {
		p := api.Recipe{Lots: []api.Lot{piece}, Mass: span(100, 100), Target: api.Bounds{all, all, all}}
		if k == 0 {
			p.Mass = span(101, 101)
			wantProof(t, p, []api.Split{{Lot: -1, Reason: 0}})
			continue
		}
		change(&p)
		wantProof(t, p, []api.Split{{Lot: 0, At: 0}, {Lot: -1, Reason: 0}, {Lot: -1, Reason: k}})
	}
	// Nothing has just this oxygen and just this carbon: the least number is the reason.
	p := api.Recipe{Lots: []api.Lot{piece}, Mass: span(100, 100), Target: api.Bounds{all, span(0, 29999), span(30001, 40000)}}
	wantProof(t, p, []api.Split{{Lot: 0, At: 0}, {Lot: -1, Reason: 0}, {Lot: -1, Reason: 4}})
}

func wantProof(t *testing.T, p api.Recipe, want []api.Split) {
	t.Helper()
	if proof, e := charge.Refute(p); !slices.Equal(proof, want) || e != api.OK {
		t.Error(p, proof, e)
	}
}

// P2.5: a charge that meets the recipe.
func TestRefuteOfWhatFits(t *testing.T) {
	for _, p := range []api.Recipe{example(), masses(span(0, 0)), masses(span(0, 9), [2]int{0, 5}), masses(span(600, 600), [2]int{3, 200})} {
		if proof, e := charge.Refute(p); e != api.ErrFits || len(proof) != 0 {
			t.Error(p, proof, e)
		}
	}
}

// P2.4: lists that are a proof, and lists that are none.
func TestRefutes(t *testing.T) {
	proof := []api.Split{{Lot: 0, At: 1}, {Lot: -1, Reason: 0}, {Lot: 0, At: 2}, {Lot: -1, Reason: 0}, {Lot: -1, Reason: 1}}
	change := func(i int, x api.Split) []api.Split {
		l := slices.Clone(proof)
		l[i] = x
		return l
	}
	for _, c := range []struct {
		name  string
		proof []api.Split
		want  bool
	}{
		{"that of Refute", proof, true},
		{"a shorter one", []api.Split{{Lot: 0, At: 2}, {Lot: -1, Reason: 0}, {Lot: -1, Reason: 1}}, true},
		{"a longer one", []api.Split{{Lot: 0, At: 0}, {Lot: -1, Reason: 0}, {Lot: 0, At: 1}, {Lot: -1, Reason: 0}, {Lot: 0, At: 2}, {Lot: -1, Reason: 0}, {Lot: -1, Reason: 1}}, true},
		{"nil", nil, false},
		{"empty", []api.Split{}, false},
		{"cut off", proof[:4], false},
		{"cut off before the right part", proof[:2], false},
		{"only the first node", proof[:1], false},
		{"something behind it", append(slices.Clone(proof), api.Split{Lot: -1}), false},
		{"two trees", slices.Concat(proof, proof), false},
		{"a reason that is not true", []api.Split{{Lot: -1}}, false},
		{"another reason that is not true", []api.Split{{Lot: -1, Reason: 1}}, false},
		{"parts turned", []api.Split{{Lot: 0, At: 2}, {Lot: -1, Reason: 1}, {Lot: -1, Reason: 0}}, false},
		{"the first node in the middle", []api.Split{{Lot: -1, Reason: 0}, {Lot: 0, At: 2}, {Lot: -1, Reason: 1}}, false},
		{"one piece too far", []api.Split{{Lot: 0, At: 1}, {Lot: -1, Reason: 0}, {Lot: -1, Reason: 1}}, false},
		{"all pieces at the left", change(0, api.Split{Lot: 0, At: 3}), false},
		{"no pieces at the left", change(0, api.Split{Lot: 0, At: -1}), false},
		{"at less than the box has", change(2, api.Split{Lot: 0, At: 1}), false},
		{"at the most the box has", change(2, api.Split{Lot: 0, At: 3}), false},
		{"another lot", change(0, api.Split{Lot: 1, At: 1}), false},
		{"a lot below -1", change(1, api.Split{Lot: -2}), false},
		{"a cut with a reason", change(0, api.Split{Lot: 0, At: 1, Reason: 1}), false},
		{"a reason with a place", change(1, api.Split{Lot: -1, At: 1}), false},
		{"a reason below 0", change(1, api.Split{Lot: -1, Reason: -1}), false},
		{"a reason above 7", change(4, api.Split{Lot: -1, Reason: 8}), false},
		{"a condition that is always true", change(4, api.Split{Lot: -1, Reason: 7}), false},
		{"the least integer", change(4, api.Split{Lot: math.MinInt, At: math.MinInt, Reason: math.MinInt}), false},
		{"the greatest integer", change(4, api.Split{Lot: math.MaxInt, At: math.MaxInt, Reason: math.MaxInt}), false},
	} {
		wantRefutes(t, c.name, even(), c.proof, c.want)
	}
	wantRefutes(t, "a lot without pieces", masses(span(1, 5), [2]int{0, 3}), []api.Split{{Lot: 0}, {Lot: -1}, {Lot: -1}}, false)
	six := slices.Repeat([][2]int{{1, 1}}, 6)
	for lot, want := range []bool{true, true, true, true, true, true, false, false} {
		wantRefutes(t, "one of six lots", masses(span(7, 9), six...), []api.Split{{Lot: lot}, {Lot: -1}, {Lot: -1}}, want)
	}
	wantRefutes(t, "a proof of what is met", example(), []api.Split{{Lot: -1}}, false)
}

// P2.4: in a box each lot has its own least and greatest number.
func TestBoxesOfProofs(t *testing.T) {
	p := masses(span(15, 15), [2]int{1, 10}, [2]int{1, 10})
	leaf := func(k int) api.Split { return api.Split{Lot: -1, Reason: k} }
	wantRefutes(t, "first by the first lot", p, []api.Split{{Lot: 0}, leaf(0), {Lot: 1}, leaf(0), leaf(1)}, true)
	wantRefutes(t, "first by the second lot", p, []api.Split{{Lot: 1}, leaf(0), {Lot: 0}, leaf(0), leaf(1)}, true)
	wantRefutes(t, "twice by the same lot", p, []api.Split{{Lot: 0}, leaf(0), {Lot: 0}, leaf(0), leaf(1)}, false)
	wantRefutes(t, "by both lots on both sides", p, []api.Split{{Lot: 0}, {Lot: 1}, leaf(0), leaf(0), {Lot: 1}, leaf(0), leaf(1)}, true)
}

// leaves appends a tree with so many leaves, all of them for the reason 0,
// for a box with from least to most pieces of the last lot, and all of the lots before it.
func leaves(proof []api.Split, n, lot int, counts []int, least int) []api.Split {
	if n == 1 {
		return append(proof, api.Split{Lot: -1})
	}
	if least == counts[lot] {
		return leaves(proof, n, lot-1, counts, 0)
	}
	// The left part has a fixed number of pieces of this lot, and is cut by the others, as long as they have pieces.
	inside := 1
	for _, count := range counts[:lot] {
		inside *= count + 1
	}
	inside = min(inside, n-1)
	proof = append(proof, api.Split{Lot: lot, At: least})
	if inside > 1 {
		proof = leaves(proof, inside, lot-1, counts, 0)
	} else {
		proof = append(proof, api.Split{Lot: -1})
	}
	return leaves(proof, n-inside, lot, counts, least+1)
}

// P2.4: the longest proofs, and the first ones that are too long.
func TestLongestProofs(t *testing.T) {
	p := masses(span(api.MaxMelt, api.MaxMelt), [2]int{24, 1}, [2]int{30, 1}, [2]int{40, 1})
	counts := []int{24, 30, 40}
	for _, c := range []struct {
		leaves int
		want   bool
	}{{1, true}, {2, true}, {1000, true}, {19999, true}, {20000, true}, {20001, false}, {20002, false}, {25000, false}} {
		proof := leaves(nil, c.leaves, 2, counts, 0)
		if len(proof) != 2*c.leaves-1 {
			t.Fatal("a tree with other leaves", c, len(proof))
		}
		wantRefutes(t, "leaves", p, proof, c.want)
		wantRefutes(t, "leaves, and another node", p, append(proof, api.Split{Lot: -1}), false)
	}
}

// P2.4: recipes with more charges than MaxCharges, and trees that are as deep as can be.
func TestDeepProofs(t *testing.T) {
	p := masses(span(api.MaxMelt, api.MaxMelt))
	var proof []api.Split
	for lot := range 6 {
		p.Lots = append(p.Lots, api.Lot{Count: 1000, Mass: 1})
		for at := range 1000 {
			proof = append(proof, api.Split{Lot: lot, At: at}, api.Split{Lot: -1})
		}
	}
	proof = append(proof, api.Split{Lot: -1})
	wantRefutes(t, "to the right", p, proof, true)
	wantRefutes(t, "without its end", p, proof[:len(proof)-1], false)

	proof = nil
	for lot := range 6 {
		for at := range 1000 {
			proof = append(proof, api.Split{Lot: lot, At: 999 - at})
		}
	}
	ends := slices.Repeat([]api.Split{{Lot: -1}}, 6001)
	wantRefutes(t, "to the left", p, slices.Concat(proof, ends), true)
	wantRefutes(t, "only to the left", p, slices.Concat(proof, ends[1:]), false)
	wantRefutes(t, "a node", p, ends[:1], true)
	p.Mass.Low = 0
	wantRefutes(t, "no reason", p, slices.Concat(proof, ends), false)
}

// P2.5, P2.11: the proof of the most charges is as long as can be, and accepted.
func TestProofOfMostCharges(t *testing.T) {
	for _, counts := range [][]int{{999, 19}, {19, 999}, {24, 7, 9, 9}} {
		p := masses(span(0, 0))
		half := 0
		for i, n := range counts {
			p.Lots = append(p.Lots, api.Lot{Count: n, Mass: 2 + 2*i})
			half += n * (1 + i)
		}
		p.Mass = span(half|1, half|1) // All masses are even.
		proof, e := charge.Refute(p)
		if e != api.OK || len(proof) > 2*api.MaxCharges || len(proof) < 100 {
			t.Error(counts, len(proof), e)
		}
		wantRefutes(t, "the most charges", p, proof, true)
		wantRefutes(t, "a node less", p, proof[:len(proof)-1], false)
	}
}

// P2.5, P2.11: either Best returns a charge, or Refute a proof, which is built as it should be.
func TestEitherOr(t *testing.T) {
	r := dice()
	refuted := 0
	for range 3000 {
		p := anyRecipe(r)
		_, _, ok := plainBest(p)
		_, _, best := charge.Best(p)
		proof, e := charge.Refute(p)
		if ok {
			if best != api.OK || e != api.ErrFits || len(proof) != 0 {
				t.Fatal("is met", p, best, proof, e)
			}
			continue
		}
		least, most := ends(p)
		if best != api.ErrCharge || e != api.OK || !slices.Equal(proof, plainRefute(p, least, most)) {
			t.Fatal("is not met", p, best, proof, e)
		}
		wantRefutes(t, "a proof", p, proof, true)
		if len(proof) > 1 {
			refuted++
		}
	}
	if refuted < 200 {
		t.Error("few proofs with parts", refuted)
	}
}

// anyTree appends a tree for a box, whose reasons are mostly true if they can be.
func anyTree(r *rand.Rand, p api.Recipe, least, most []int, proof []api.Split) []api.Split {
	var reasons []int
	for k := range 8 {
		if none(p, least, most, k) {
			reasons = append(reasons, k)
		}
	}
	var lots []int
	for i := range least {
		if least[i] < most[i] {
			lots = append(lots, i)
		}
	}
	if len(lots) == 0 || len(reasons) > 0 && r.Intn(3) > 0 {
		x := api.Split{Lot: -1, Reason: r.Intn(8)}
		if len(reasons) > 0 && r.Intn(20) > 0 {
			x.Reason = reasons[r.Intn(len(reasons))]
		}
		return append(proof, x)
	}
	i := lots[r.Intn(len(lots))]
	at := least[i] + r.Intn(most[i]-least[i])
	proof = append(proof, api.Split{Lot: i, At: at})
	proof = anyTree(r, p, least, with(most, i, at), proof)
	return anyTree(r, p, with(least, i, at+1), most, proof)
}

// spoilt returns a list that differs a little.
func spoilt(r *rand.Rand, l []api.Split) []api.Split {
	l = slices.Clone(l)
	i := r.Intn(len(l))
	switch r.Intn(6) {
	case 0:
		l[i].Lot += r.Intn(3) - 1
	case 1:
		l[i].At += r.Intn(3) - 1
	case 2:
		l[i].Reason += r.Intn(3) - 1
	case 3:
		l = slices.Delete(l, i, i+1)
	case 4:
		l = slices.Insert(l, i, l[r.Intn(len(l))])
	default:
		j := r.Intn(len(l))
		l[i], l[j] = l[j], l[i]
	}
	return l
}

// P2.4, P2.11: any trees, and what is left of them when they are spoilt. No recipe that is met has a proof.
func TestAnyProofs(t *testing.T) {
	r := dice()
	seen := map[bool]int{}
	for range 3000 {
		p := anyRecipe(r)
		least, most := ends(p)
		tree := anyTree(r, p, least, most, nil)
		for _, l := range [][]api.Split{tree, spoilt(r, tree), spoilt(r, tree)} {
			want := proves(p, l)
			seen[want]++
			if ok, e := charge.Refutes(p, l); ok != want || e != api.OK {
				t.Fatal(p, l, ok, e)
			}
			if _, _, met := plainBest(p); met && want {
				t.Fatal("a proof of what is met", p, l)
			}
		}
	}
	if seen[true] < 500 || seen[false] < 500 {
		t.Error("too few of a kind", seen)
	}
}
