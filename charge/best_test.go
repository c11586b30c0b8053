package charge_test

import (
	"slices"
	"testing"

	"boule/api"
	"boule/charge"
)

// wantBest checks the results of Best.
func wantBest(t *testing.T, name string, p api.Recipe, counts []int, cost int, want api.Errno) {
	t.Helper()
	l, c, e := charge.Best(p)
	if !slices.Equal(l, counts) || c != cost || e != want {
		t.Errorf("%s: got %v, cost %d, error %d; want %v, cost %d, error %d", name, l, c, e, counts, cost, want)
	}
}

// P2.3, and example 1.
func TestBest(t *testing.T) {
	wantBest(t, "example 1", example(), []int{3, 1}, 22, api.OK)

	p := example()
	p.Lots[1].Cost = 0
	wantBest(t, "the second lot for nothing", p, []int{3, 1}, 12, api.OK)
	p.Lots[0].Cost = 0
	wantBest(t, "all for nothing", p, []int{3, 1}, 0, api.OK)
	p.Mass.Low = 501
	wantBest(t, "600 mg", p, []int{4, 1}, 0, api.OK)
	p.Mass.Low = 601
	wantBest(t, "700 mg with 10 to 15 units", p, nil, 0, api.ErrCharge)
	p.Mass = span(2000, 3000)
	wantBest(t, "too much", p, nil, 0, api.ErrCharge)
}

// P2.3: of several charges of the same cost the smallest list.
func TestBestOfTheSameCost(t *testing.T) {
	p := masses(span(400, 400), [2]int{4, 100}, [2]int{4, 100}, [2]int{4, 100})
	wantBest(t, "for nothing", p, []int{0, 0, 4}, 0, api.OK)
	p.Lots[0].Cost, p.Lots[1].Cost, p.Lots[2].Cost = 1, 1, 1
	wantBest(t, "all as dear", p, []int{0, 0, 4}, 4, api.OK)
	p.Lots[2].Cost = 2
	wantBest(t, "the last one dearer", p, []int{0, 4, 0}, 4, api.OK)
	p.Lots[1].Cost = 2
	wantBest(t, "the first one cheaper", p, []int{4, 0, 0}, 4, api.OK)
	p.Lots[0].Count = 3
	wantBest(t, "one piece of the others", p, []int{3, 0, 1}, 5, api.OK)

	p = masses(span(0, 1000), [2]int{4, 100}, [2]int{4, 100})
	wantBest(t, "nothing is enough", p, []int{0, 0}, 0, api.OK)
}

// P2.3: recipes without lots, and lots without pieces.
func TestBestOfNothing(t *testing.T) {
	wantBest(t, "no lots", masses(span(0, 0)), nil, 0, api.OK)
	wantBest(t, "no lots, but a mass", masses(span(1, 2)), nil, 0, api.ErrCharge)
	wantBest(t, "no pieces", masses(span(0, 5), [2]int{0, 100}, [2]int{0, 100}), []int{0, 0}, 0, api.OK)
	wantBest(t, "no pieces, but a mass", masses(span(1, 5), [2]int{0, 1}), nil, 0, api.ErrCharge)
	wantBest(t, "pieces of one lot", masses(span(150, 500), [2]int{0, 100}, [2]int{5, 100}, [2]int{0, 100}), []int{0, 2, 0}, 0, api.OK)
	greedy := masses(span(0, 0))
	greedy.Target[api.Oxygen] = span(100, 200) // Nothing at all meets any target.
	wantBest(t, "no lots, but a target", greedy, nil, 0, api.OK)
}

// P2.3, P2.5: MaxCharges is just met and just passed.
func TestMaxCharges(t *testing.T) {
	for _, c := range []struct {
		counts []int
		want   api.Errno
	}{
		{[]int{999, 19}, api.OK}, {[]int{24, 7, 9, 9}, api.OK}, {[]int{999, 0, 19, 0}, api.OK}, {[]int{1000}, api.OK},
		{[]int{2, 58, 112}, api.ErrFull}, {[]int{1000, 19}, api.ErrFull}, {[]int{19, 1000}, api.ErrFull}, {[]int{1000, 1000}, api.ErrFull}, {[]int{1000, 1000, 1000, 1000, 1000, 1000}, api.ErrFull},
	} {
		p := masses(span(0, 0))
		for _, n := range c.counts {
			p.Lots = append(p.Lots, api.Lot{Count: n, Mass: 1})
		}
		zeros := make([]int, len(c.counts))
		if c.want != api.OK {
			zeros = nil
		}
		wantBest(t, "nothing", p, zeros, 0, c.want)

		fits := api.ErrFits
		if c.want != api.OK {
			fits = c.want
		}
		if proof, e := charge.Refute(p); e != fits || len(proof) != 0 {
			t.Error("Refute", c, e)
		}

		p.Mass = span(api.MaxMelt, api.MaxMelt) // No charge meets it.
		none := api.ErrCharge
		if c.want != api.OK {
			none = c.want
		}
		wantBest(t, "too much", p, nil, 0, none)
		if proof, e := charge.Refute(p); e != c.want || e == api.OK && !slices.Equal(proof, []api.Split{{Lot: -1}}) {
			t.Error("Refute", c, proof, e)
		}
	}
}

// P2.3: the last one of the most charges is the only one that meets the recipe.
func TestLastOfMostCharges(t *testing.T) {
	p := masses(span(1018, 1018), [2]int{999, 1}, [2]int{19, 1})
	p.Lots[0].Cost, p.Lots[1].Cost = api.MaxCost, api.MaxCost
	wantBest(t, "all pieces", p, []int{999, 19}, 1018*api.MaxCost, api.OK)
}

// P2.3, P2.10: as good as the best one of all charges.
func TestBestOfAllCharges(t *testing.T) {
	r := dice()
	met := 0
	for range 4000 {
		p := anyRecipe(r)
		counts, cost, ok := plainBest(p)
		want := api.OK
		if !ok {
			want = api.ErrCharge
		} else if len(counts) > 1 {
			met++
		}
		wantBest(t, "any", p, counts, cost, want)
	}
	if met < 500 {
		t.Error("few recipes are met", met)
	}
}

// P2.12: what is known better, wider recipes, and more pieces.
func TestKnownBetter(t *testing.T) {
	r := dice()
	narrow := func(x api.Range) api.Range {
		low := x.Low + r.Intn(x.High-x.Low+1)
		return span(low, low+r.Intn(x.High-low+1))
	}
	widen := func(x api.Range, most int) api.Range {
		return span(r.Intn(x.Low+1), x.High+r.Intn(most-x.High+1))
	}
	for range 4000 {
		p := anyRecipe(r)
		q := copied(p)
		switch r.Intn(3) {
		case 0:
			for i := range q.Lots {
				for s, x := range q.Lots[i].Content {
					q.Lots[i].Content[s] = narrow(x)
				}
			}
		case 1:
			q.Mass = widen(q.Mass, 2000)
			for s, x := range q.Target {
				q.Target[s] = widen(x, 100000)
			}
		default:
			for i := range q.Lots {
				q.Lots[i].Count += r.Intn(3)
			}
		}
		for _, c := range charges(p) {
			k, _ := charge.Fits(p, c)
			if still, e := charge.Fits(q, c); k < 0 && still >= 0 || e != api.OK {
				t.Fatal("met it before", p, q, c, still, e)
			}
		}
		if _, cost, e := charge.Best(p); e == api.OK {
			if l, less, e := charge.Best(q); e != api.OK || less > cost {
				t.Fatal("the cost grew", p, q, cost, l, less, e)
			}
		}
	}
}
