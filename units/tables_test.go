package units_test

import (
	"math"
	"math/big"
	"math/rand"
	"slices"
	"testing"

	"boule/api"
	"boule/units"
)

const far = api.MaxCoord

// stairs returns a table of n knots.
func stairs(n int) []api.Knot {
	t := make([]api.Knot, n)
	for i := range t {
		t[i] = api.Knot{X: i, Y: i % 2}
	}
	return t
}

// badTables are not valid.
func badTables() [][]api.Knot {
	return [][]api.Knot{
		nil, {}, {{X: 1, Y: 1}}, stairs(api.MaxKnots + 1),
		{{X: 1}, {X: 1}}, {{X: 2}, {X: 1}}, {{X: 0}, {X: 1}, {X: 1}}, {{X: 0}, {X: 5}, {X: 4}},
		{{X: 0}, {X: far + 1}}, {{X: -far - 1}, {X: 0}}, {{X: 0, Y: far + 1}, {X: 1}}, {{X: 0}, {X: 1, Y: -far - 1}},
		{{X: math.MinInt}, {X: math.MaxInt}}, {{X: 0, Y: math.MinInt}, {X: 1, Y: math.MaxInt}},
	}
}

// P1.9 (CheckTable).
func TestCheckTable(t *testing.T) {
	for _, good := range [][]api.Knot{hill(), stairs(2), stairs(api.MaxKnots), {{X: -far, Y: -far}, {X: far, Y: far}}, {{X: -1, Y: far}, {X: 0, Y: -far}}} {
		if e := units.CheckTable(good); e != api.OK {
			t.Error(good, e)
		}
	}
	for _, bad := range badTables() {
		if e := units.CheckTable(bad); e != api.ErrArg {
			t.Error(bad, e)
		}
	}
}

// P1.9 (Value), and example 6.
func TestValue(t *testing.T) {
	steep := []api.Knot{{X: 0, Y: 0}, {X: 1, Y: 10}, {X: 3, Y: -1}}
	wide := []api.Knot{{X: -far, Y: -far}, {X: far - 1, Y: far}, {X: far, Y: -far}}
	for _, c := range []struct {
		table   []api.Knot
		x, want api.Range
		e       api.Errno
	}{
		{hill(), span(3, 12), span(1, 5), api.OK}, {hill(), span(3, 3), span(1, 2), api.OK}, {hill(), span(4, 4), span(2, 2), api.OK}, {hill(), span(13, 15), span(2, 4), api.OK},
		{hill(), span(0, 20), span(0, 5), api.OK}, {hill(), span(10, 10), span(5, 5), api.OK}, {hill(), span(0, 0), span(0, 0), api.OK}, {hill(), span(20, 20), span(0, 0), api.OK}, {hill(), span(9, 10), span(4, 5), api.OK},
		{steep, span(2, 2), span(4, 5), api.OK}, {steep, span(2, 3), span(-1, 5), api.OK}, {steep, span(0, 3), span(-1, 10), api.OK},
		{wide, span(-far, far), span(-far, far), api.OK}, {wide, span(0, 0), span(0, 1), api.OK}, {wide, span(far-2, far-2), span(far-2, far-1), api.OK}, {wide, span(1-far, 1-far), span(1-far, 2-far), api.OK},
		{hill(), span(-1, 3), span(0, 0), api.ErrNone}, {hill(), span(3, 21), span(0, 0), api.ErrNone}, {hill(), span(30, 40), span(0, 0), api.ErrNone}, {hill(), span(-most, most), span(0, 0), api.ErrNone},
		{hill(), span(4, 3), span(0, 0), api.ErrArg}, {hill(), span(-most-1, 3), span(0, 0), api.ErrArg}, {hill(), span(3, most+1), span(0, 0), api.ErrArg},
	} {
		y, e := units.Value(c.table, c.x)
		wantRange(t, "value", y, e, c.want, c.e)
	}
	for _, bad := range badTables() {
		y, e := units.Value(bad, span(-far, -far))
		wantRange(t, "bad table", y, e, api.Range{}, api.ErrArg)
	}
}

// P1.10, and example 6.
func TestWhereAndInverse(t *testing.T) {
	steep := []api.Knot{{X: 0, Y: 0}, {X: 1, Y: 10}, {X: 3, Y: -1}}
	flat := []api.Knot{{X: 0, Y: 2}, {X: 5, Y: 2}, {X: 8, Y: 2}, {X: 9, Y: 7}, {X: 12, Y: 7}}
	wide := []api.Knot{{X: -far, Y: -far}, {X: far, Y: far}}
	for _, c := range []struct {
		table []api.Knot
		y     api.Range
		want  []api.Range
	}{
		{hill(), span(2, 4), []api.Range{span(4, 8), span(12, 16)}}, {hill(), span(5, 9), []api.Range{span(10, 10)}}, {hill(), span(0, 5), []api.Range{span(0, 20)}}, {hill(), span(3, 9), []api.Range{span(6, 14)}},
		{hill(), span(0, 0), []api.Range{span(0, 0), span(20, 20)}}, {hill(), span(6, 9), nil}, {hill(), span(-9, -1), nil}, {hill(), span(-most, most), []api.Range{span(0, 20)}}, {hill(), span(1, 1), []api.Range{span(2, 2), span(18, 18)}},
		{steep, span(1, 9), []api.Range{span(2, 2)}}, {steep, span(5, 9), nil}, {steep, span(4, 4), nil}, {steep, span(-9, 4), []api.Range{span(0, 0), span(3, 3)}},
		{flat, span(2, 2), []api.Range{span(0, 8)}}, {flat, span(3, 9), []api.Range{span(9, 12)}}, {flat, span(2, 7), []api.Range{span(0, 12)}}, {flat, span(3, 6), nil}, {flat, span(-5, 1), nil},
		{wide, span(-most, most), []api.Range{span(-far, far)}}, {wide, span(7, most), []api.Range{span(7, far)}}, {wide, span(far, far), []api.Range{span(far, far)}}, {wide, span(far+1, most), nil}, {wide, span(-most, -far), []api.Range{span(-far, -far)}},
	} {
		l, e := units.Where(c.table, c.y)
		if !slices.Equal(l, c.want) || e != api.OK {
			t.Error(c, l, e)
		}
		x, f := units.Inverse(c.table, c.y)
		if len(c.want) == 0 {
			wantRange(t, "inverse", x, f, api.Range{}, api.ErrNone)
		} else {
			wantRange(t, "inverse", x, f, span(c.want[0].Low, c.want[len(c.want)-1].High), api.OK)
		}
	}
}

// P1.10: the errors.
func TestWhereAndInverseErrors(t *testing.T) {
	check := func(table []api.Knot, y api.Range) {
		t.Helper()
		l, e := units.Where(table, y)
		x, f := units.Inverse(table, y)
		if len(l) != 0 || e != api.ErrArg || x != (api.Range{}) || f != api.ErrArg {
			t.Error(table, y, l, e, x, f)
		}
	}
	for _, bad := range badTables() {
		check(bad, span(0, 1))
	}
	for _, y := range []api.Range{span(1, 0), span(-most-1, 0), span(0, most+1), span(8, 7)} {
		check(hill(), y)
	}
}

// P1.11.
func TestThrough(t *testing.T) {
	up := []api.Knot{{X: 0, Y: 0}, {X: 5, Y: 20}}
	same := []api.Knot{{X: 0, Y: 0}, {X: 5, Y: 5}}
	ten := slices.Repeat([][]api.Knot{same}, api.MaxTables)
	for _, c := range []struct {
		name   string
		tables [][]api.Knot
		x, y   api.Range
		at     int
		e      api.Errno
	}{
		{"nil", nil, span(-most, most), span(-most, most), 0, api.OK},
		{"none", [][]api.Knot{}, span(3, 4), span(3, 4), 0, api.OK},
		{"one", [][]api.Knot{hill()}, span(3, 12), span(1, 5), 0, api.OK},
		{"two", [][]api.Knot{up, hill()}, span(1, 2), span(2, 4), 0, api.OK},
		{"rounded between", [][]api.Knot{hill(), up}, span(3, 12), span(4, 20), 0, api.OK},
		{"ten", ten, span(1, 5), span(1, 5), 0, api.OK},
		{"outside of the first one", [][]api.Knot{up, up}, span(9, 9), span(0, 0), 0, api.ErrNone},
		{"outside of the second one", [][]api.Knot{up, up}, span(1, 2), span(0, 0), 1, api.ErrNone},
		{"outside of the last one", append(slices.Clone(ten[:9]), []api.Knot{{X: 1}, {X: 5}}), span(0, 5), span(0, 0), 9, api.ErrNone},
		{"too many", append(slices.Clone(ten), nil), span(2, 1), span(0, 0), 0, api.ErrLong},
		{"a later table", [][]api.Knot{up, nil}, span(9, 9), span(0, 0), 0, api.ErrArg},
		{"range", [][]api.Knot{up}, span(2, 1), span(0, 0), 0, api.ErrArg},
		{"range and no tables", nil, span(0, most+1), span(0, 0), 0, api.ErrArg},
	} {
		y, at, e := units.Through(c.tables, c.x)
		if y != c.y || at != c.at || e != c.e {
			t.Error(c.name, y, at, e)
		}
	}
	for _, bad := range badTables() {
		if y, at, e := units.Through([][]api.Knot{same, bad}, span(1, 2)); y != (api.Range{}) || at != 0 || e != api.ErrArg {
			t.Error(bad, y, at, e)
		}
	}
}

// smallTable returns a table of few knots with small coordinates.
func smallTable(r *rand.Rand) []api.Knot {
	t := make([]api.Knot, 2+r.Intn(5))
	x := r.Intn(11) - 5
	for i := range t {
		t[i] = api.Knot{X: x, Y: r.Intn(21) - 10}
		x += 1 + r.Intn(6)
	}
	return t
}

// valueAt returns the exact value of a table.
func valueAt(t []api.Knot, x int) *big.Rat {
	i := 1
	for t[i].X < x {
		i++
	}
	a, b := t[i-1], t[i]
	return new(big.Rat).Add(whole(a.Y), ratio(b.Y-a.Y, x-a.X, b.X-a.X))
}

// plainWhere looks at one integer after another.
func plainWhere(t []api.Knot, y api.Range) []api.Range {
	var runs []api.Range
	for x := t[0].X; x <= t[len(t)-1].X; x++ {
		v := valueAt(t, x)
		if v.Cmp(whole(y.Low)) < 0 || v.Cmp(whole(y.High)) > 0 {
			continue
		}
		if n := len(runs); n > 0 && runs[n-1].High == x-1 {
			runs[n-1].High = x
			continue
		}
		runs = append(runs, span(x, x))
	}
	return runs
}

// P1.9, P1.10, P1.13, P1.17: values and runs of small tables, integer by integer.
func TestTablesIntegerByInteger(t *testing.T) {
	r := dice()
	for range 3000 {
		table := smallTable(r)
		first, last := table[0].X, table[len(table)-1].X
		low := first + r.Intn(last-first+1)
		x := span(low, low+r.Intn(last-low+1))
		want, _ := leastRange(all(x, func(at int) *big.Rat { return valueAt(table, at) }))
		got, e := units.Value(table, x)
		wantRange(t, "value", got, e, want, api.OK)

		turned := slices.Clone(table)
		for i := range turned {
			turned[i].Y = -turned[i].Y
		}
		opposite, e := units.Value(turned, x)
		wantRange(t, "turned", opposite, e, span(-want.High, -want.Low), api.OK)

		y := smallRange(r, 11)
		runs, e := units.Where(table, y)
		if !slices.Equal(runs, plainWhere(table, y)) || e != api.OK {
			t.Fatal(table, y, runs, e)
		}
		for _, run := range runs {
			if v, e := units.Value(table, run); e != api.OK || !inside(v, y) {
				t.Fatal(table, y, run, v, e)
			}
		}
		if runs2, e := units.Where(turned, span(-y.High, -y.Low)); e != api.OK || !slices.Equal(runs2, runs) {
			t.Fatal("turned", table, y, runs2, e)
		}
	}
}

// P1.10, P1.17: runs of large tables end just where the value leaves the range.
func TestRunsOfLargeTables(t *testing.T) {
	r := dice()
	for range 3000 {
		table := []api.Knot{{X: -far + r.Intn(far), Y: r.Intn(2*far+1) - far}, {X: 1 + r.Intn(far), Y: r.Intn(2*far+1) - far}}
		y := smallRange(r, far)
		isIn := func(x int) bool {
			if x < table[0].X || x > table[1].X {
				return false
			}
			v := valueAt(table, x)
			return v.Cmp(whole(y.Low)) >= 0 && v.Cmp(whole(y.High)) <= 0
		}
		runs, e := units.Where(table, y)
		if e != api.OK || len(runs) > 1 {
			t.Fatal(table, y, runs, e)
		}
		if len(runs) == 1 {
			if run := runs[0]; !isIn(run.Low) || !isIn(run.High) || isIn(run.Low-1) || isIn(run.High+1) {
				t.Fatal(table, y, run)
			}
		}
		at := table[0].X + r.Intn(table[1].X-table[0].X+1)
		if isIn(at) && (len(runs) == 0 || at < runs[0].Low || at > runs[0].High) {
			t.Fatal("missing", table, y, runs, at)
		}
	}
}
