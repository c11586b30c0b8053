package charge

import (
	"slices"

	"boule/api"
)

// pieces is a number of pieces of each lot of a recipe.
type pieces [api.MaxKinds]int

// spares is what each condition of a recipe, by its number, has to spare. A
// condition is true if that is not below 0.
type spares [8]int

// box is the charges of a recipe that have from least to most pieces of each lot.
type box struct {
	api.Recipe
	least, most pieces
}

// all returns the box of all charges.
func all(p api.Recipe) box {
	b := box{Recipe: p}
	for i, l := range p.Lots {
		b.most[i] = l.Count
	}
	return b
}

// only returns the box of a single charge.
func only(p api.Recipe, n pieces) box { return box{p, n, n} }

// perPiece returns what a piece of a lot adds to what the conditions have to spare.
func (b box) perPiece(l api.Lot) spares {
	x := spares{l.Mass, -l.Mass}
	for s, r := range l.Content {
		x[2+2*s] = b.Target[s].High*l.Mass - api.Kilogram*r.High
		x[3+2*s] = api.Kilogram*r.Low - b.Target[s].Low*l.Mass
	}
	return x
}

// spare returns the most that each condition has to spare in any charge of the
// box. It is the sum of the most that each lot adds, as the number of pieces
// of one lot does not depend on those of the others.
func (b box) spare() spares {
	most := spares{-b.Mass.Low, b.Mass.High}
	for i, l := range b.Lots {
		for k, x := range b.perPiece(l) {
			most[k] += max(b.least[i]*x, b.most[i]*x)
		}
	}
	return most
}

// broken returns the number of the first condition that is true of no charge
// of the box, or -1.
func (b box) broken() int {
	most := b.spare()
	return slices.IndexFunc(most[:], func(x int) bool { return x < 0 })
}

// cut returns the charges with at most so many pieces of a lot, and those with more.
func (b box) cut(lot, at int) (left, right box) {
	left, right = b, b
	left.most[lot], right.least[lot] = at, at+1
	return left, right
}
