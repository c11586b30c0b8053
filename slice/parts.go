package slice

import (
	"boule/api"
	"boule/check"
	"boule/units"
)

func lengthOf(p api.Parts) int {
	length := p.Top + p.Bottom
	for _, l := range [][]int{p.Kerfs, p.Slices} {
		for _, n := range l {
			length += n
		}
	}
	return length
}

func areParts(p api.Parts) bool {
	if len(p.Kerfs) > api.MaxWires || len(p.Slices) != max(0, len(p.Kerfs)-1) {
		return false
	}
	along := api.Range{High: api.MaxAlong}
	return lie(along, p.Top, p.Bottom) && lie(along, p.Kerfs...) && lie(along, p.Slices...) &&
		(len(p.Kerfs) > 0 || p.Bottom == 0) &&
		lie(api.Range{Low: 1, High: api.MaxAlong}, lengthOf(p))
}

// divider returns what gives each part of a block its share of a number, by the
// lengths of the parts, one behind the other.
func divider(n, whole int) func(length int) int {
	before := 0
	return func(length int) int {
		// All parts before it, and all behind it, have together what they have one by one.
		shares, _ := units.Portions(n, []int{before, length, whole - before - length})
		before += length
		return shares[1]
	}
}

// Divide divides a mass, or a content, of a block among its parts.
func Divide(n int, p api.Parts) (top int, kerfs, slices []int, bottom int, e api.Errno) {
	e = check.First(
		check.Unless(api.ErrRange, func() bool { return 0 <= n && n <= api.MaxNumber }),
		check.Unless(api.ErrArg, func() bool { return areParts(p) }),
	)
	if e != api.OK {
		return 0, nil, nil, 0, e
	}
	share := divider(n, lengthOf(p))
	top = share(p.Top)
	for i, kerf := range p.Kerfs {
		kerfs = append(kerfs, share(kerf))
		if i < len(p.Slices) {
			slices = append(slices, share(p.Slices[i]))
		}
	}
	return top, kerfs, slices, share(p.Bottom), api.OK
}
