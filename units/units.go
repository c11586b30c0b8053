// Package units computes exactly with numbers, ranges and tables: see shared/doc/01-units.md.
package units

import (
	"boule/api"
	"boule/check"
)

// within reports whether all numbers are from -most to most.
func within(most int, numbers ...int) bool {
	for _, n := range numbers {
		if n < -most || n > most {
			return false
		}
	}
	return true
}

// areNumbers reports whether all integers are numbers of the chapter.
func areNumbers(integers ...int) bool { return within(api.MaxNumber, integers...) }

// areAmounts reports whether all integers are numbers that are not below 0.
func areAmounts(integers ...int) bool {
	for _, n := range integers {
		if n < 0 {
			return false
		}
	}
	return areNumbers(integers...)
}

// isDivisor reports whether c may stand below the line of a fraction.
func isDivisor(c int) bool { return c >= 1 && areNumbers(c) }

// validRanges demands that all ranges are valid.
func validRanges(ranges ...api.Range) check.Condition {
	return check.Unless(api.ErrArg, func() bool {
		for _, r := range ranges {
			if !areNumbers(r.Low, r.High) || r.Low > r.High {
				return false
			}
		}
		return true
	})
}

// validFractions demands that all fractions are valid.
func validFractions(fractions ...api.Frac) check.Condition {
	return check.Unless(api.ErrArg, func() bool {
		for _, f := range fractions {
			if !areNumbers(f.Num) || !isDivisor(f.Den) {
				return false
			}
		}
		return true
	})
}

// validTables demands that all tables are valid.
func validTables(tables ...[]api.Knot) check.Condition {
	return check.Unless(api.ErrArg, func() bool {
		for _, t := range tables {
			if !isTable(t) {
				return false
			}
		}
		return true
	})
}
