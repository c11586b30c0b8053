package crop

import (
	"cmp"

	"boule/api"
)

// outlook is what the best cropping has from a place on: its total, how many
// blocks, and the first one of them, if there is any.
type outlook struct {
	total, blocks int
	first         api.Block
}

// isBetter reports whether an outlook is meant rather than another one of the
// same place. Of two that are as good and begin at different places, the
// earlier one is the smaller list, whatever comes behind.
func (x outlook) isBetter(y outlook) bool {
	return cmp.Or(
		cmp.Compare(y.total, x.total),
		cmp.Compare(x.blocks, y.blocks),
		cmp.Compare(x.first.From, y.first.From),
	) < 0
}

// outlooks returns the outlook of each place of a boule.
func (b boule) outlooks() []outlook {
	l := make([]outlook, b.length()+1)
	for from := b.length() - 1; from >= 0; from-- {
		l[from] = l[from+1]
		for to, value := range b.blocks(from) {
			rest := l[b.behind(to)]
			x := outlook{rest.total + value, rest.blocks + 1, api.Block{From: from, To: to}}
			if x.isBetter(l[from]) { // Of several as good ones that begin here the shortest one came first, and stays.
				l[from] = x
			}
		}
	}
	return l
}

// Best returns the cropping that is worth most.
func Best(l []api.Stretch, s api.Saw) (blocks []api.Block, total int, e api.Errno) {
	if e = Check(l, s); e != api.OK {
		return nil, 0, e
	}
	b := lay(l, s)
	places := b.outlooks()
	for x := places[0]; x.blocks > 0; x = places[b.behind(x.first.To)] {
		blocks = append(blocks, x.first)
	}
	return blocks, places[0].total, api.OK
}

// Bounds returns the least proof of what can be cropped from each place on.
func Bounds(l []api.Stretch, s api.Saw) ([]int, api.Errno) {
	if e := Check(l, s); e != api.OK {
		return nil, e
	}
	var bounds []int
	for _, x := range lay(l, s).outlooks() {
		bounds = append(bounds, x.total)
	}
	return bounds, api.OK
}

// fall reports whether numbers are within their limits, and none is less than
// the one behind it.
func fall(l []int) bool {
	most := api.MaxNumber
	for _, n := range l {
		if n < 0 || n > most {
			return false
		}
		most = n
	}
	return true
}

// isBounded reports whether each block adds no more than the numbers fall from
// its beginning to where the next block can begin.
func (b boule) isBounded(bounds []int) bool {
	for from := range b.length() {
		for to, value := range b.blocks(from) {
			if bounds[from] < value+bounds[b.behind(to)] {
				return false
			}
		}
	}
	return true
}

// Proves reports whether a list bounds what can be cropped from each place on.
func Proves(l []api.Stretch, s api.Saw, bounds []int) (bool, api.Errno) {
	if e := Check(l, s); e != api.OK {
		return false, e
	}
	b := lay(l, s)
	return len(bounds) == b.length()+1 && fall(bounds) && b.isBounded(bounds), api.OK
}
