package charge_test

import (
	"slices"
	"testing"

	"boule/api"
	"boule/charge"
)

// anError calls all functions with a recipe and checks that they return this error, and nothing else.
func anError(t *testing.T, name string, p api.Recipe, want api.Errno) {
	t.Helper()
	counts := make([]int, len(p.Lots))
	if e := charge.Check(p); e != want {
		t.Error(name, "Check", e)
	}
	if x, e := charge.Weigh(p, counts); e != want || x != (api.Pile{}) {
		t.Error(name, "Weigh", x, e)
	}
	if k, e := charge.Fits(p, counts); e != want || k != 0 {
		t.Error(name, "Fits", k, e)
	}
	if l, cost, e := charge.Best(p); e != want || len(l) != 0 || cost != 0 {
		t.Error(name, "Best", l, cost, e)
	}
	if proof, e := charge.Refute(p); e != want || len(proof) != 0 {
		t.Error(name, "Refute", proof, e)
	}
	if ok, e := charge.Refutes(p, nil); e != want || ok {
		t.Error(name, "Refutes", ok, e)
	}
	if _, e := charge.Weigh(p, []int{-1}); e != want {
		t.Error(name, "Weigh of no charge", e)
	}
	if _, e := charge.Fits(p, []int{-1}); e != want {
		t.Error(name, "Fits of no charge", e)
	}
}

// change is something that is done to the example of the document.
type change struct {
	name string
	make func(p *api.Recipe)
}

// P2.1: what is just valid.
func TestValidRecipes(t *testing.T) {
	for _, c := range []change{
		{"nothing", func(p *api.Recipe) {}},
		{"no lots", func(p *api.Recipe) { p.Lots = nil }},
		{"six lots", func(p *api.Recipe) { p.Lots = slices.Repeat(p.Lots, 3) }},
		{"no pieces", func(p *api.Recipe) { p.Lots[1].Count = 0 }},
		{"most pieces", func(p *api.Recipe) { p.Lots[1].Count = 1000 }},
		{"lightest piece", func(p *api.Recipe) { p.Lots[1].Mass = 1 }},
		{"heaviest piece", func(p *api.Recipe) { p.Lots[1].Mass = 1000000 }},
		{"most units", func(p *api.Recipe) { p.Lots[1].Content[api.Carbon] = span(100000000, 100000000) }},
		{"any units", func(p *api.Recipe) { p.Lots[1].Content = wide() }},
		{"dearest piece", func(p *api.Recipe) { p.Lots[1].Cost = 1000000 }},
		{"no mass", func(p *api.Recipe) { p.Mass = span(0, 0) }},
		{"greatest mass", func(p *api.Recipe) { p.Mass = span(1000000000, 1000000000) }},
		{"no target", func(p *api.Recipe) { p.Target = api.Bounds{} }},
		{"greatest target", func(p *api.Recipe) { p.Target[api.Oxygen] = span(100000000, 100000000) }},
	} {
		p := example()
		c.make(&p)
		if e := charge.Check(p); e != api.OK {
			t.Error(c.name, e)
		}
	}
}

// P2.1: what is just not valid any more.
func TestInvalidRecipes(t *testing.T) {
	for _, c := range []change{
		{"count below 0", func(p *api.Recipe) { p.Lots[0].Count = -1 }},
		{"too many pieces", func(p *api.Recipe) { p.Lots[1].Count = 1001 }},
		{"no mass", func(p *api.Recipe) { p.Lots[0].Mass = 0 }},
		{"too heavy", func(p *api.Recipe) { p.Lots[1].Mass = 1000001 }},
		{"dopant below 0", func(p *api.Recipe) { p.Lots[0].Content[api.Dopant].Low = -1 }},
		{"carbon below 0", func(p *api.Recipe) { p.Lots[1].Content[api.Carbon].Low = -1 }},
		{"dopant turned", func(p *api.Recipe) { p.Lots[0].Content[api.Dopant] = span(4, 3) }},
		{"oxygen turned", func(p *api.Recipe) { p.Lots[0].Content[api.Oxygen] = span(1, 0) }},
		{"too much dopant", func(p *api.Recipe) { p.Lots[0].Content[api.Dopant].High = 100000001 }},
		{"too much carbon", func(p *api.Recipe) { p.Lots[1].Content[api.Carbon].High = 100000001 }},
		{"cost below 0", func(p *api.Recipe) { p.Lots[0].Cost = -1 }},
		{"too dear", func(p *api.Recipe) { p.Lots[1].Cost = 1000001 }},
		{"mass below 0", func(p *api.Recipe) { p.Mass.Low = -1 }},
		{"mass turned", func(p *api.Recipe) { p.Mass = span(6, 5) }},
		{"too much mass", func(p *api.Recipe) { p.Mass.High = 1000000001 }},
		{"target below 0", func(p *api.Recipe) { p.Target[api.Dopant].Low = -1 }},
		{"target turned", func(p *api.Recipe) { p.Target[api.Oxygen] = span(6, 5) }},
		{"too great a target", func(p *api.Recipe) { p.Target[api.Carbon].High = 100000001 }},
		{"an invalid lot without pieces", func(p *api.Recipe) { p.Lots[0] = api.Lot{} }},
		{"too many charges", func(p *api.Recipe) { p.Lots[0].Count, p.Lots[1].Count, p.Mass.Low = 1000, 1000, -1 }},
	} {
		p := example()
		c.make(&p)
		anError(t, c.name, p, api.ErrArg)
	}
}

// P2.1: ErrLong is named first.
func TestTooManyLots(t *testing.T) {
	p := example()
	p.Lots = slices.Repeat(p.Lots, 4)[:7]
	anError(t, "seven lots", p, api.ErrLong)
	p.Lots[6].Mass, p.Mass.Low = 0, -1
	anError(t, "seven lots that are not valid", p, api.ErrLong)
}

// P2.2, and example 1.
func TestWeighAndFits(t *testing.T) {
	dopant := func(mass, low, high int) api.Pile {
		return api.Pile{Mass: mass, Content: api.Bounds{span(low, high)}}
	}
	for _, c := range []struct {
		counts []int
		pile   api.Pile
		first  int
	}{
		{[]int{3, 1}, dopant(500, 6, 9), -1}, {[]int{4, 1}, dopant(600, 8, 12), -1}, {[]int{5, 1}, dopant(700, 10, 15), 2},
		{[]int{5, 0}, dopant(500, 10, 15), 2}, {[]int{0, 0}, dopant(0, 0, 0), 0}, {[]int{4, 0}, dopant(400, 8, 12), 0},
		{[]int{5, 2}, dopant(900, 10, 15), 1}, {[]int{5, 5}, dopant(1500, 10, 15), 1}, {[]int{0, 3}, dopant(600, 0, 0), 3}, {[]int{1, 2}, dopant(500, 2, 3), 3},
	} {
		if x, e := charge.Weigh(example(), c.counts); x != c.pile || e != api.OK {
			t.Error("Weigh", c, x, e)
		}
		if k, e := charge.Fits(example(), c.counts); k != c.first || e != api.OK {
			t.Error("Fits", c, k, e)
		}
	}
}

// P2.2: each condition when it is just met and just passed, by its number.
func TestEachCondition(t *testing.T) {
	one := func(mass int, dopant, oxygen, carbon api.Range) api.Recipe {
		return api.Recipe{Lots: []api.Lot{{Count: 2, Mass: mass, Content: api.Bounds{dopant, oxygen, carbon}}}, Mass: span(500, 700), Target: api.Bounds{span(10000, 20000), span(30000, 40000), span(50000, 60000)}}
	}
	for _, c := range []struct {
		mass                   int
		dopant, oxygen, carbon api.Range
		first                  int
	}{
		{250, span(5, 5), span(10, 10), span(15, 15), -1}, {350, span(7, 7), span(14, 14), span(21, 21), -1},
		{249, span(5, 5), span(10, 10), span(15, 15), 0}, {351, span(9, 9), span(0, 0), span(0, 0), 1},
		{300, span(3, 6), span(9, 12), span(15, 18), -1},
		{300, span(3, 7), span(9, 12), span(15, 18), 2}, {300, span(2, 6), span(9, 12), span(15, 18), 3},
		{300, span(3, 6), span(9, 13), span(15, 18), 4}, {300, span(3, 6), span(8, 12), span(15, 18), 5},
		{300, span(3, 6), span(9, 12), span(15, 19), 6}, {300, span(3, 6), span(9, 12), span(14, 18), 7},
		{300, span(2, 7), span(8, 13), span(14, 19), 2}, {300, span(3, 6), span(8, 13), span(14, 19), 4}, {300, span(2, 6), span(0, 99), span(0, 99), 3},
	} {
		if k, e := charge.Fits(one(c.mass, c.dopant, c.oxygen, c.carbon), []int{2}); k != c.first || e != api.OK {
			t.Error(c, k, e)
		}
	}
}

// P2.2, R3: lists that are no charge.
func TestNoCharge(t *testing.T) {
	for _, counts := range [][]int{nil, {}, {3}, {3, 1, 0}, {6, 0}, {0, 6}, {-1, 3}, {3, -1}} {
		if x, e := charge.Weigh(example(), counts); e != api.ErrRange || x != (api.Pile{}) {
			t.Error("Weigh", counts, x, e)
		}
		if k, e := charge.Fits(example(), counts); e != api.ErrRange || k != 0 {
			t.Error("Fits", counts, k, e)
		}
	}
	none := masses(span(0, 0))
	for _, counts := range [][]int{nil, {}} {
		if x, e := charge.Weigh(none, counts); e != api.OK || x != (api.Pile{}) {
			t.Error("Weigh", counts, x, e)
		}
		if k, e := charge.Fits(none, counts); e != api.OK || k != -1 {
			t.Error("Fits", counts, k, e)
		}
	}
	if _, e := charge.Weigh(none, []int{0}); e != api.ErrRange {
		t.Error("a lot that is not there", e)
	}
}

// P2.2, R5: the greatest charges.
func TestGreatestCharges(t *testing.T) {
	full := span(api.MaxUnits, api.MaxUnits)
	p := api.Recipe{Lots: slices.Repeat([]api.Lot{{Count: 1000, Mass: 1000000, Content: api.Bounds{full, full, full}, Cost: 1000000}}, 6), Mass: span(0, api.MaxMelt), Target: api.Bounds{full, full, full}}
	counts := slices.Repeat([]int{1000}, 6)
	all := span(600000000000, 600000000000)
	if x, e := charge.Weigh(p, counts); e != api.OK || x != (api.Pile{Mass: 6000000000, Content: api.Bounds{all, all, all}}) {
		t.Error(x, e)
	}
	if k, e := charge.Fits(p, counts); k != 1 || e != api.OK {
		t.Error("too much", k, e)
	}
	counts = []int{1000, 0, 0, 0, 0, 0}
	if k, e := charge.Fits(p, counts); k != -1 || e != api.OK {
		t.Error("all limits just met", k, e)
	}
	p.Target[api.Carbon] = span(0, api.MaxUnits-1)
	if k, e := charge.Fits(p, counts); k != 6 || e != api.OK {
		t.Error("a unit less", k, e)
	}
}

// P2.2: all charges of small recipes.
func TestWeighAndFitsOfAllCharges(t *testing.T) {
	r := dice()
	for range 1500 {
		p := anyRecipe(r)
		for _, c := range charges(p) {
			if x, e := charge.Weigh(p, c); x != plainPile(p, c) || e != api.OK {
				t.Fatal("Weigh", p, c, x, e)
			}
			if k, e := charge.Fits(p, c); k != plainFits(p, c) || e != api.OK {
				t.Fatal("Fits", p, c, k, e)
			}
		}
	}
}

// P2.10: whatever the pieces contain, a charge that meets a recipe has what it asks for.
func TestWhateverPiecesContain(t *testing.T) {
	r := dice()
	met := 0
	for range 3000 {
		p := anyRecipe(r)
		for _, c := range charges(p) {
			if k, _ := charge.Fits(p, c); k >= 0 {
				continue
			}
			met++
			for range 3 {
				lies(t, p, c, func(x api.Range) int { return x.Low + r.Intn(x.High-x.Low+1) })
			}
			lies(t, p, c, func(x api.Range) int { return x.Low })
			lies(t, p, c, func(x api.Range) int { return x.High })
		}
	}
	if met < 1000 {
		t.Error("few charges meet their recipe", met)
	}
}

// lies checks the mass and the concentrations of a charge whose pieces contain what is chosen.
func lies(t *testing.T, p api.Recipe, counts []int, choose func(api.Range) int) {
	t.Helper()
	mass := 0
	var content [3]int
	for i, l := range p.Lots {
		for range counts[i] {
			mass += l.Mass
			for s := range content {
				content[s] += choose(l.Content[s])
			}
		}
	}
	if mass < p.Mass.Low || mass > p.Mass.High {
		t.Fatal("mass", p, counts, mass)
	}
	for s, units := range content {
		if units*1000000 < p.Target[s].Low*mass || units*1000000 > p.Target[s].High*mass {
			t.Fatal("concentration", p, counts, s, units, mass)
		}
	}
}
