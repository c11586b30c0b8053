package charge_test

import (
	"math"
	"math/rand"
	"slices"

	"boule/api"
)

// hostile are integers at and around all limits.
var hostile = []int{
	math.MinInt, -api.MaxUnits, -2, -1, 0, 1, 2, api.MaxKinds, api.MaxKinds + 1, 8, api.MaxPieces, api.MaxPieces + 1,
	api.MaxPiece, api.MaxPiece + 1, api.MaxUnits, api.MaxUnits + 1, api.MaxMelt, api.MaxMelt + 1, math.MaxInt,
}

func span(low, high int) api.Range { return api.Range{Low: low, High: high} }

// wide is a target that all charges meet whose pieces have less than 100 units in a mg.
func wide() api.Bounds {
	anything := span(0, api.MaxUnits)
	return api.Bounds{anything, anything, anything}
}

// example is the recipe of the document's first example.
func example() api.Recipe {
	p := api.Recipe{
		Lots: []api.Lot{
			{Count: 5, Mass: 100, Content: api.Bounds{span(2, 3)}, Cost: 4},
			{Count: 5, Mass: 200, Cost: 10},
		},
		Mass:   span(500, 700),
		Target: wide(),
	}
	p.Target[api.Dopant] = span(10000, 20000)
	return p
}

// masses is a recipe for a mass alone, with lots of so many pieces of so many mg.
func masses(mass api.Range, lots ...[2]int) api.Recipe {
	p := api.Recipe{Mass: mass, Target: wide()}
	for _, l := range lots {
		p.Lots = append(p.Lots, api.Lot{Count: l[0], Mass: l[1]})
	}
	return p
}

// dice returns the same numbers in every run.
func dice() *rand.Rand { return rand.New(rand.NewSource(1)) }

func anyRange(r *rand.Rand, most, step int) api.Range {
	low := r.Intn(most + 1)
	return span(low*step, (low+r.Intn(most+1-low))*step)
}

// anyRecipe returns a small recipe, whose conditions are often just met or just passed.
func anyRecipe(r *rand.Rand) api.Recipe {
	p := api.Recipe{Lots: make([]api.Lot, r.Intn(4)), Mass: anyRange(r, 8, 100)}
	for s := range p.Target {
		p.Target[s] = span(0, 50000)
		if r.Intn(2) == 0 {
			p.Target[s] = anyRange(r, 10, 5000)
		}
	}
	for i := range p.Lots {
		p.Lots[i] = api.Lot{Count: r.Intn(4), Mass: 100 * (1 + r.Intn(3)), Cost: r.Intn(4)}
		for s := range p.Target {
			p.Lots[i].Content[s] = anyRange(r, 4, 1)
		}
	}
	return p
}

// copied returns a recipe that shares no memory with p.
func copied(p api.Recipe) api.Recipe {
	p.Lots = slices.Clone(p.Lots)
	return p
}

func sameRecipe(p, q api.Recipe) bool {
	return slices.Equal(p.Lots, q.Lots) && p.Mass == q.Mass && p.Target == q.Target
}

// plainPile weighs a charge piece by piece.
func plainPile(p api.Recipe, counts []int) api.Pile {
	var x api.Pile
	for i, l := range p.Lots {
		for range counts[i] {
			x.Mass += l.Mass
			for s := range l.Content {
				x.Content[s].Low += l.Content[s].Low
				x.Content[s].High += l.Content[s].High
			}
		}
	}
	return x
}

// holds reports whether the condition k of a recipe is true of a charge.
func holds(p api.Recipe, counts []int, k int) bool {
	x := plainPile(p, counts)
	switch s := k/2 - 1; {
	case k == 0:
		return x.Mass >= p.Mass.Low
	case k == 1:
		return x.Mass <= p.Mass.High
	case k%2 == 0:
		return 1000000*x.Content[s].High <= p.Target[s].High*x.Mass
	default:
		return 1000000*x.Content[s].Low >= p.Target[s].Low*x.Mass
	}
}

// plainFits looks at one condition after another.
func plainFits(p api.Recipe, counts []int) int {
	for k := range 8 {
		if !holds(p, counts, k) {
			return k
		}
	}
	return -1
}

// between returns all lists from least to most, the smallest first.
func between(least, most []int) [][]int {
	if len(least) == 0 {
		return [][]int{{}}
	}
	var l [][]int
	for n := least[0]; n <= most[0]; n++ {
		for _, rest := range between(least[1:], most[1:]) {
			l = append(l, append([]int{n}, rest...))
		}
	}
	return l
}

// ends returns the least and the greatest numbers of pieces of all charges.
func ends(p api.Recipe) (least, most []int) {
	least, most = make([]int, len(p.Lots)), make([]int, len(p.Lots))
	for i, l := range p.Lots {
		most[i] = l.Count
	}
	return least, most
}

// charges returns all charges of a recipe, the smallest list first.
func charges(p api.Recipe) [][]int { return between(ends(p)) }

// plainCost pays piece by piece.
func plainCost(p api.Recipe, counts []int) int {
	cost := 0
	for i, l := range p.Lots {
		for range counts[i] {
			cost += l.Cost
		}
	}
	return cost
}

// plainBest looks at all charges. It is not ok if none meets the recipe.
func plainBest(p api.Recipe) (counts []int, cost int, ok bool) {
	for _, c := range charges(p) {
		if plainFits(p, c) >= 0 {
			continue
		}
		x := plainCost(p, c)
		if !ok || x < cost || x == cost && slices.Compare(c, counts) < 0 {
			counts, cost, ok = c, x, true
		}
	}
	return counts, cost, ok
}
