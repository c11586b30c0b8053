package units

import (
	"iter"

	"boule/api"
	"boule/check"
)

// piece is the straight line between two neighbouring knots of a table.
type piece struct {
	from, to api.Knot
}

// pieces yields the pieces of a table from left to right.
func pieces(t []api.Knot) iter.Seq[piece] {
	return func(yield func(piece) bool) {
		for i := 1; i < len(t); i++ {
			if !yield(piece{t[i-1], t[i]}) {
				return
			}
		}
	}
}

// across returns the integers from one knot to the other one.
func (p piece) across() api.Range { return api.Range{Low: p.from.X, High: p.to.X} }

// at returns the value at x, rounded. Here and in where the limits of
// coordinates keep all quotients numbers.
func (p piece) at(x int, how api.Rounding) int {
	n, _, _ := product(p.to.Y-p.from.Y, x-p.from.X).divide(p.to.X-p.from.X, how)
	return p.from.Y + n
}

// turned returns the piece with opposite values.
func (p piece) turned() piece {
	p.from.Y, p.to.Y = -p.from.Y, -p.to.Y
	return p
}

// where returns the integers of the piece at which its value is in y. It is
// not ok if there are none.
func (p piece) where(y api.Range) (r api.Range, ok bool) {
	if p.from.Y > p.to.Y {
		return p.turned().where(api.Range{Low: -y.High, High: -y.Low})
	}
	y, ok = common(y, api.Range{Low: p.from.Y, High: p.to.Y})
	if !ok {
		return api.Range{}, false
	}
	if p.from.Y == p.to.Y {
		return p.across(), true
	}
	run, rise := p.to.X-p.from.X, p.to.Y-p.from.Y
	low, _, _ := product(y.Low-p.from.Y, run).divide(rise, api.Up)
	high, _, _ := product(y.High-p.from.Y, run).divide(rise, api.Down)
	return api.Range{Low: p.from.X + low, High: p.from.X + high}, low <= high
}

func isTable(t []api.Knot) bool {
	if len(t) < 2 || len(t) > api.MaxKnots {
		return false
	}
	for i, k := range t {
		if !within(api.MaxCoord, k.X, k.Y) || i > 0 && t[i-1].X >= k.X {
			return false
		}
	}
	return true
}

// CheckTable returns the error of a table.
func CheckTable(t []api.Knot) api.Errno { return check.First(validTables(t)) }

// Value returns the least range that has the values of a table at all integers of a range.
func Value(t []api.Knot, x api.Range) (api.Range, api.Errno) {
	e := check.First(
		validTables(t),
		validRanges(x),
		check.Unless(api.ErrNone, func() bool { return x.Low >= t[0].X && x.High <= t[len(t)-1].X }),
	)
	if e != api.OK {
		return api.Range{}, e
	}
	var g gathered
	for p := range pieces(t) {
		part, ok := common(p.across(), x)
		if !ok {
			continue
		}
		for _, at := range ends(part) {
			g.add(p.at(at, api.Down), p.at(at, api.Up))
		}
	}
	return g.result()
}

// Where returns the runs of integers at which the value of a table is in a range.
func Where(t []api.Knot, y api.Range) ([]api.Range, api.Errno) {
	if e := check.First(validTables(t), validRanges(y)); e != api.OK {
		return nil, e
	}
	var runs []api.Range
	for p := range pieces(t) {
		if r, ok := p.where(y); ok {
			runs = appendRun(runs, r)
		}
	}
	return runs, api.OK
}

// appendRun appends the run of the next piece, or lengthens the last run by it:
// pieces share a knot, so that runs that touch have it in common.
func appendRun(runs []api.Range, r api.Range) []api.Range {
	last := len(runs) - 1
	if last >= 0 && r.Low == runs[last].High {
		runs[last].High = r.High
		return runs
	}
	return append(runs, r)
}

// Inverse returns from which to which integer the value of a table is in a range.
func Inverse(t []api.Knot, y api.Range) (api.Range, api.Errno) {
	runs, e := Where(t, y)
	if e != api.OK {
		return api.Range{}, e
	}
	if len(runs) == 0 {
		return api.Range{}, api.ErrNone
	}
	return api.Range{Low: runs[0].Low, High: runs[len(runs)-1].High}, api.OK
}

// Through returns the value of a range by tables, one after another.
func Through(tables [][]api.Knot, x api.Range) (y api.Range, at int, e api.Errno) {
	e = check.First(check.AtMost(api.MaxTables, len(tables)), validTables(tables...), validRanges(x))
	if e != api.OK {
		return api.Range{}, 0, e
	}
	y = x
	for i, t := range tables {
		if y, e = Value(t, y); e != api.OK {
			return api.Range{}, i, e
		}
	}
	return y, 0, api.OK
}
