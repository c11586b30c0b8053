package charge

import (
	"boule/api"
	"boule/check"
)

// leaf is the Lot of a node without parts.
const leaf = -1

// noneMeets demands that no charge meets a recipe.
func noneMeets(p api.Recipe) check.Condition {
	return check.Unless(api.ErrFits, func() bool {
		for range meeting(p) {
			return false
		}
		return true
	})
}

// Refute returns a proof that no charge meets a recipe.
func Refute(p api.Recipe) ([]api.Split, api.Errno) {
	if e := check.First(validRecipe(p), fewCharges(p), noneMeets(p)); e != api.OK {
		return nil, e
	}
	return all(p).refute(nil), api.OK
}

// refute appends the nodes for a box without a charge that meets the recipe.
func (b box) refute(proof []api.Split) []api.Split {
	if k := b.broken(); k >= 0 {
		return append(proof, api.Split{Lot: leaf, Reason: k})
	}
	lot := 0
	for b.least[lot] == b.most[lot] { // Some lot differs: a single charge would break a condition.
		lot++
	}
	at := (b.least[lot] + b.most[lot]) / 2
	left, right := b.cut(lot, at)
	return right.refute(left.refute(append(proof, api.Split{Lot: lot, At: at})))
}

// Refutes reports whether a proof shows that no charge meets a recipe.
func Refutes(p api.Recipe, proof []api.Split) (bool, api.Errno) {
	if e := Check(p); e != api.OK {
		return false, e
	}
	if len(proof) > 2*api.MaxCharges {
		return false, api.OK
	}
	rest, ok := all(p).follow(proof)
	return ok && len(rest) == 0, api.OK
}

// follow returns the nodes behind the tree for the box with which a list
// begins. It is not ok if the list begins with none, or if the tree is wrong.
func (b box) follow(proof []api.Split) (rest []api.Split, ok bool) {
	if len(proof) == 0 {
		return nil, false
	}
	first, rest := proof[0], proof[1:]
	if first.Lot == leaf {
		return rest, b.isLeaf(first)
	}
	if !b.isCut(first) {
		return nil, false
	}
	left, right := b.cut(first.Lot, first.At)
	if rest, ok = left.follow(rest); !ok {
		return nil, false
	}
	return right.follow(rest)
}

// isLeaf reports whether the reason of a node without parts is true.
func (b box) isLeaf(x api.Split) bool {
	most := b.spare()
	return x.At == 0 && 0 <= x.Reason && x.Reason < len(most) && most[x.Reason] < 0
}

// isCut reports whether a node cuts the box into two parts that have charges.
func (b box) isCut(x api.Split) bool {
	return 0 <= x.Lot && x.Lot < len(b.Lots) && b.least[x.Lot] <= x.At && x.At < b.most[x.Lot] && x.Reason == 0
}
