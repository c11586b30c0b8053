package units

import (
	"boule/api"
	"boule/check"
)

// MulDiv returns a times b divided by c, rounded, and what is left of a times b.
func MulDiv(a, b, c int, how api.Rounding) (n, rest int, e api.Errno) {
	e = check.First(
		check.Unless(api.ErrArg, func() bool { return how == api.Down || how == api.Up || how == api.Near }),
		check.Unless(api.ErrRange, func() bool { return areNumbers(a, b) && isDivisor(c) }),
	)
	if e != api.OK {
		return 0, 0, e
	}
	n, rest, ok := product(a, b).divide(c, how)
	if !ok {
		return 0, 0, api.ErrOver
	}
	return n, rest, api.OK
}

// Compare returns 1 if the first fraction is greater, -1 if the second one is, and 0 if they are equal.
func Compare(a, b api.Frac) (int, api.Errno) {
	if e := check.First(validFractions(a, b)); e != api.OK {
		return 0, e
	}
	return compareFractions(a, b), api.OK
}

func compareFractions(a, b api.Frac) int {
	return product(a.Num, b.Den).compare(product(b.Num, a.Den))
}

// Simplest returns the fraction with the least Den from one fraction to another one.
func Simplest(a, b api.Frac) (api.Frac, api.Errno) {
	e := check.First(
		validFractions(a, b),
		check.Unless(api.ErrArg, func() bool { return compareFractions(a, b) <= 0 }),
	)
	if e != api.OK {
		return api.Frac{}, e
	}
	return simplest(a, b), api.OK
}

// simplest goes down the continued fractions of both ends as long as they
// agree. Above 0 the fraction with the least Den also has the least Num, so
// that what is simplest among the inverse fractions is simplest here.
func simplest(a, b api.Frac) api.Frac {
	whole, rest, _ := MulDiv(a.Num, 1, a.Den, api.Down)
	if rest == 0 {
		return api.Frac{Num: whole, Den: 1}
	}
	last, over, _ := MulDiv(b.Num, 1, b.Den, api.Down)
	if whole < last {
		return api.Frac{Num: whole + 1, Den: 1}
	}
	x := simplest(api.Frac{Num: b.Den, Den: over}, api.Frac{Num: a.Den, Den: rest})
	return api.Frac{Num: whole*x.Num + x.Den, Den: x.Num}
}

// Portions cuts a number into parts by weights.
func Portions(n int, weights []int) ([]int, api.Errno) {
	sum := 0
	for _, w := range weights {
		sum += w // A sum that wraps around has one of the earlier errors.
	}
	e := check.First(
		check.AtMost(api.MaxPortions, len(weights)),
		check.Unless(api.ErrRange, func() bool { return areAmounts(n) && areAmounts(weights...) }),
		check.Unless(api.ErrOver, func() bool { return areNumbers(sum) }),
		check.Unless(api.ErrArg, func() bool { return sum > 0 }),
	)
	if e != api.OK {
		return nil, e
	}
	parts := make([]int, len(weights))
	before, given := 0, 0
	for i, w := range weights {
		before += w
		upTo, _, _ := MulDiv(n, before, sum, api.Down)
		parts[i] = upTo - given
		given = upTo
	}
	return parts, api.OK
}
