package charge

import (
	"iter"
	"slices"

	"boule/api"
	"boule/check"
)

// fewCharges demands that a recipe has at most MaxCharges charges.
func fewCharges(p api.Recipe) check.Condition {
	return check.Unless(api.ErrFull, func() bool {
		charges := 1
		for _, l := range p.Lots {
			charges *= l.Count + 1 // Even 1001^6 fits an int.
		}
		return charges <= api.MaxCharges
	})
}

// choose yields all charges that begin with the first i numbers of n, the
// smallest list first, until it is told to stop.
func choose(lots []api.Lot, i int, n pieces, yield func(pieces) bool) bool {
	if i == len(lots) {
		return yield(n)
	}
	for count := range lots[i].Count + 1 {
		n[i] = count
		if !choose(lots, i+1, n, yield) {
			return false
		}
	}
	return true
}

// meeting yields all charges that meet a recipe, the smallest list first.
func meeting(p api.Recipe) iter.Seq[pieces] {
	return func(yield func(pieces) bool) {
		choose(p.Lots, 0, pieces{}, func(n pieces) bool {
			return only(p, n).broken() >= 0 || yield(n)
		})
	}
}

func costOf(p api.Recipe, n pieces) int {
	cost := 0
	for i, l := range p.Lots {
		cost += n[i] * l.Cost
	}
	return cost
}

// Best returns the cheapest charge that meets a recipe, and its cost.
func Best(p api.Recipe) (counts []int, cost int, e api.Errno) {
	if e = check.First(validRecipe(p), fewCharges(p)); e != api.OK {
		return nil, 0, e
	}
	var best pieces
	found := false
	for n := range meeting(p) {
		if c := costOf(p, n); !found || c < cost {
			best, cost, found = n, c, true
		}
	}
	if !found {
		return nil, 0, api.ErrCharge
	}
	return slices.Clone(best[:len(p.Lots)]), cost, api.OK
}
