package charge

import (
	"maps"
	"slices"

	"boule/api"
	"boule/check"
)

// Store is a store of lots.
type Store struct {
	lots    map[int]api.Lot // by their numbers, with the pieces that are left
	parents map[int][]int   // by the number of the lot that was made of them
	drawn   api.Pile
}

// NewStore returns a store without lots.
func NewStore() *Store {
	return &Store{lots: map[int]api.Lot{}, parents: map[int][]int{}}
}

func (s *Store) exists() check.Condition {
	return check.Unless(api.ErrNil, func() bool { return s != nil })
}

// has demands that there is a lot with a number.
func (s *Store) has(number int) check.Condition {
	return check.Unless(api.ErrNone, func() bool {
		_, ok := s.lots[number]
		return ok
	})
}

// Receive adds a lot and returns its number.
func (s *Store) Receive(l api.Lot) (int, api.Errno) { return s.Return(l, nil) }

// Return adds a lot that was made of other ones.
func (s *Store) Return(l api.Lot, parents []int) (int, api.Errno) {
	e := check.First(
		s.exists(),
		check.Unless(api.ErrArg, func() bool { return isLot(l) && l.Count > 0 }),
		check.AtMost(api.MaxParents, len(parents)),
		check.Each(parents, func(i, number int) api.Errno {
			return check.First(
				s.has(number),
				check.Unless(api.ErrTwice, func() bool { return !slices.Contains(parents[:i], number) }),
			)
		}),
		check.Unless(api.ErrFull, func() bool { return len(s.lots) < api.MaxLots }),
	)
	if e != api.OK {
		return 0, e
	}
	number := len(s.lots) + 1
	s.lots[number], s.parents[number] = l, slices.Clone(parents)
	return number, api.OK
}

// canBeDrawn demands that the store has the pieces of a pick, whose lot is in no pick before it.
func (s *Store) canBeDrawn(x api.Pick, before []api.Pick) api.Errno {
	return check.First(
		s.has(x.Lot),
		check.Unless(api.ErrTwice, func() bool {
			return !slices.ContainsFunc(before, func(y api.Pick) bool { return y.Lot == x.Lot })
		}),
		check.Unless(api.ErrRange, func() bool { return x.N >= 1 }),
		check.Unless(api.ErrStock, func() bool { return x.N <= s.lots[x.Lot].Count }),
	)
}

// Draw takes pieces out of the store.
func (s *Store) Draw(l []api.Pick) api.Errno {
	e := check.First(
		s.exists(),
		check.Each(l, func(i int, x api.Pick) api.Errno { return s.canBeDrawn(x, l[:i]) }),
	)
	if e != api.OK {
		return e
	}
	for _, x := range l {
		lot := s.lots[x.Lot]
		lot.Count -= x.N
		s.lots[x.Lot] = lot
		s.drawn = withPieces(s.drawn, lot, x.N)
	}
	return api.OK
}

// Lot returns a lot, with the number of pieces that are left.
func (s *Store) Lot(number int) (api.Lot, api.Errno) {
	if e := check.First(s.exists(), s.has(number)); e != api.OK {
		return api.Lot{}, e
	}
	return s.lots[number], api.OK
}

// Trace returns the numbers of all lots of which a lot was made.
func (s *Store) Trace(number int) ([]int, api.Errno) {
	if e := check.First(s.exists(), s.has(number)); e != api.OK {
		return nil, e
	}
	found := map[int]bool{}
	// Parents have lesser numbers: on the way down all that are made of a lot come before it.
	for n := number; n > 0; n-- {
		if n != number && !found[n] {
			continue
		}
		for _, parent := range s.parents[n] {
			found[parent] = true
		}
	}
	return slices.Sorted(maps.Keys(found)), api.OK
}

// Made returns the numbers of all lots that were made of a lot.
func (s *Store) Made(number int) ([]int, api.Errno) {
	if e := check.First(s.exists(), s.has(number)); e != api.OK {
		return nil, e
	}
	family := map[int]bool{number: true}
	var made []int
	for n := number + 1; n <= len(s.lots); n++ {
		if slices.ContainsFunc(s.parents[n], func(parent int) bool { return family[parent] }) {
			family[n] = true
			made = append(made, n)
		}
	}
	return made, api.OK
}

// Sums returns what is in the store, and what was drawn.
func (s *Store) Sums() (left, drawn api.Pile) {
	if s == nil {
		return api.Pile{}, api.Pile{}
	}
	for _, l := range s.lots {
		left = withPieces(left, l, l.Count)
	}
	return left, s.drawn
}
