// Package units computes exactly with numbers, ranges and tables: see shared/doc/01-units.md.
package units

import "boule/api"

// condition is what must hold, and the error if it does not. It is asked only
// when all conditions before it hold, so that it may rely on them.
type condition struct {
	e     api.Errno
	holds func() bool
}

// firstError returns the error of the first condition that does not hold.
func firstError(conditions ...condition) api.Errno {
	for _, c := range conditions {
		if !c.holds() {
			return c.e
		}
	}
	return api.OK
}

// within reports whether all numbers are from -most to most.
func within(most int, numbers ...int) bool {
	for _, n := range numbers {
		if n < -most || n > most {
			return false
		}
	}
	return true
}

// areNumbers reports whether all integers are numbers of the chapter.
func areNumbers(integers ...int) bool { return within(api.MaxNumber, integers...) }

// areAmounts reports whether all integers are numbers that are not below 0.
func areAmounts(integers ...int) bool {
	for _, n := range integers {
		if n < 0 {
			return false
		}
	}
	return areNumbers(integers...)
}

// isDivisor reports whether c may stand below the line of a fraction.
func isDivisor(c int) bool { return c >= 1 && areNumbers(c) }

// atMost demands that a list has at most so many elements.
func atMost(most, length int) condition {
	return condition{api.ErrLong, func() bool { return length <= most }}
}

// validRanges demands that all ranges are valid.
func validRanges(ranges ...api.Range) condition {
	return condition{api.ErrArg, func() bool {
		for _, r := range ranges {
			if !areNumbers(r.Low, r.High) || r.Low > r.High {
				return false
			}
		}
		return true
	}}
}

// validFractions demands that all fractions are valid.
func validFractions(fractions ...api.Frac) condition {
	return condition{api.ErrArg, func() bool {
		for _, f := range fractions {
			if !areNumbers(f.Num) || !isDivisor(f.Den) {
				return false
			}
		}
		return true
	}}
}

// validTables demands that all tables are valid.
func validTables(tables ...[]api.Knot) condition {
	return condition{api.ErrArg, func() bool {
		for _, t := range tables {
			if !isTable(t) {
				return false
			}
		}
		return true
	}}
}
