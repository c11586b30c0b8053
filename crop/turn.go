package crop

import (
	"iter"
	"slices"

	"boule/api"
	"boule/check"
)

// farthest is how far a saw can be turned in a direction.
const farthest = 4 * api.MaxTilt

// areWithin reports whether all ranges lie between -most and most.
func areWithin(most int, ranges ...api.Range) bool {
	for _, r := range ranges {
		if r.Low < -most || r.Low > r.High || r.High > most {
			return false
		}
	}
	return true
}

func isTilt(t api.Tilt) bool { return areWithin(api.MaxTilt, t.X, t.Y) }

func isSetting(x api.Swivel) bool {
	return areWithin(farthest, api.Range{Low: x.X, High: x.X}, api.Range{Low: x.Y, High: x.Y})
}

// away returns how far the numbers of a range are from 0 when they are moved.
func away(r api.Range, by int) api.Range {
	low, high := r.Low+by, r.High+by
	return api.Range{Low: max(0, low, -high), High: max(-low, high)}
}

// Off returns how far a block is off with a setting of the saw.
func Off(t api.Tilt, x api.Swivel) (api.Range, api.Errno) {
	e := check.First(
		check.Unless(api.ErrArg, func() bool { return isTilt(t) }),
		check.Unless(api.ErrRange, func() bool { return isSetting(x) }),
	)
	if e != api.OK {
		return api.Range{}, e
	}
	a, b := away(t.X, x.X), away(t.Y, x.Y)
	return api.Range{Low: a.Low + b.Low, High: a.High + b.High}, api.OK
}

// square is all settings whose X + Y, and whose X - Y, lie in a range. The sum
// of two absolute values is the greater one of those of their sum and of their
// difference: so the settings that suit a block are a square, and so are those
// that several squares have in common.
type square struct {
	sum, difference api.Range
}

// meet returns what two ranges have in common. It is not valid if that is nothing.
func meet(a, b api.Range) api.Range {
	return api.Range{Low: max(a.Low, b.Low), High: min(a.High, b.High)}
}

// suiting returns the settings that suit a block.
func suiting(t api.Tilt, tolerance int) square {
	return square{
		sum:        api.Range{Low: -tolerance - t.X.Low - t.Y.Low, High: tolerance - t.X.High - t.Y.High},
		difference: api.Range{Low: -tolerance - t.X.Low + t.Y.High, High: tolerance - t.X.High + t.Y.Low},
	}
}

// suitingAll returns the settings that suit all blocks with these numbers. A
// tolerance keeps them nearer than a saw can be turned.
func suitingAll(l []api.Tilt, tolerance int, numbers ...int) square {
	all := api.Range{Low: -2 * farthest, High: 2 * farthest}
	q := square{all, all}
	for _, i := range numbers {
		x := suiting(l[i], tolerance)
		q = square{meet(q.sum, x.sum), meet(q.difference, x.difference)}
	}
	return q
}

// first returns the setting with the least X, of several the one with the least
// Y, if there is any: the sum and the difference of two integers are both even,
// or both odd, so that one of them may have to be greater than it could be.
func (q square) first() (x api.Swivel, ok bool) {
	u, v := q.sum.Low, q.difference.Low
	if u > q.sum.High || v > q.difference.High {
		return api.Swivel{}, false
	}
	if (u-v)%2 != 0 {
		switch {
		case v < q.difference.High: // With the same X, this has the lesser Y.
			v++
		case u < q.sum.High:
			u++
		default:
			return api.Swivel{}, false
		}
	}
	return api.Swivel{X: (u + v) / 2, Y: (u - v) / 2}, true
}

// checkBlocks returns the error of blocks with a tolerance.
func checkBlocks(l []api.Tilt, tolerance int) api.Errno {
	return check.First(
		check.AtMost(api.MaxBlocks, len(l)),
		check.Unless(api.ErrArg, func() bool {
			return len(l) > 0 && !slices.ContainsFunc(l, func(t api.Tilt) bool { return !isTilt(t) })
		}),
		check.Unless(api.ErrRange, func() bool { return 0 <= tolerance && tolerance <= api.MaxTilt }),
	)
}

// Turn returns a setting of the saw that suits all blocks.
func Turn(l []api.Tilt, tolerance int) (api.Swivel, api.Errno) {
	if e := checkBlocks(l, tolerance); e != api.OK {
		return api.Swivel{}, e
	}
	var numbers []int
	for i := range len(l) {
		numbers = append(numbers, i)
	}
	x, ok := suitingAll(l, tolerance, numbers...).first()
	if !ok {
		return api.Swivel{}, api.ErrTurn
	}
	return x, api.OK
}

// choose yields chosen with so many of the numbers from least to n - 1 behind
// it, in ascending order, the smallest list first, until it is told to stop.
func choose(chosen []int, more, least, n int, yield func([]int) bool) bool {
	if more == 0 {
		return yield(chosen)
	}
	for i := least; i < n; i++ {
		if !choose(append(chosen, i), more-1, i+1, n, yield) {
			return false
		}
	}
	return true
}

// choices yields all lists of numbers from 0 to n - 1, each number once and in
// ascending order: the shortest lists first, of the same length the smallest
// one. A list holds until the next one comes.
func choices(n int) iter.Seq[[]int] {
	return func(yield func([]int) bool) {
		for more := range n + 1 {
			if !choose(nil, more, 0, n, yield) {
				return
			}
		}
	}
}

// Conflict returns the numbers of few blocks that no setting suits.
func Conflict(l []api.Tilt, tolerance int) ([]int, api.Errno) {
	if e := checkBlocks(l, tolerance); e != api.OK {
		return nil, e
	}
	for numbers := range choices(len(l)) {
		if _, ok := suitingAll(l, tolerance, numbers...).first(); !ok {
			return slices.Clone(numbers), api.OK
		}
	}
	return nil, api.ErrAgree
}
