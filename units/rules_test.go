package units_test

import (
	"slices"
	"testing"

	"boule/api"
	"boule/units"
)

// P1, R2: whatever the integers, calls come back, and with an error all other
// results are zero values.
func TestHostileIntegers(t *testing.T) {
	for _, a := range hostile {
		for _, b := range hostile {
			for _, c := range hostile {
				hostileQuotients(t, a, b, c)
				hostileRanges(t, a, b, c)
				hostileTables(t, a, b, c)
			}
		}
	}
}

func hostileQuotients(t *testing.T, a, b, c int) {
	t.Helper()
	for how := range api.Rounding(5) {
		if n, rest, e := units.MulDiv(a, b, c, how); e != api.OK && (n != 0 || rest != 0) {
			t.Error("MulDiv", a, b, c, how, n, rest, e)
		}
	}
	if n, e := units.Compare(frac(a, b), frac(c, b)); e != api.OK && n != 0 {
		t.Error("Compare", a, b, c, n, e)
	}
	if f, e := units.Simplest(frac(a, b), frac(c, b)); e != api.OK && f != (api.Frac{}) {
		t.Error("Simplest", a, b, c, f, e)
	}
	if l, e := units.Portions(a, []int{b, c}); e != api.OK && len(l) != 0 {
		t.Error("Portions", a, b, c, l, e)
	}
}

func hostileRanges(t *testing.T, a, b, c int) {
	t.Helper()
	check := func(name string, r api.Range, e api.Errno) {
		t.Helper()
		if e != api.OK && r != (api.Range{}) || r.Low > r.High {
			t.Error(name, a, b, c, r, e)
		}
	}
	x, y := span(a, b), span(b, c)
	r, e := units.Sum([]api.Range{x, y})
	check("Sum", r, e)
	r, e = units.Less(x, y)
	check("Less", r, e)
	r, e = units.Scale(x, frac(c, b))
	check("Scale", r, e)
	r, e = units.Times(x, y, c)
	check("Times", r, e)
	r, e = units.Over(x, y, a)
	check("Over", r, e)
	r, e = units.Meet([]api.Range{x, y})
	check("Meet", r, e)
	r, e = units.Hull([]api.Range{x, y})
	check("Hull", r, e)
	l, r, e := units.Balance([]api.Range{x, y}, span(a, c))
	check("Balance", r, e)
	if e != api.OK && len(l) != 0 {
		t.Error("Balance", a, b, c, l, e)
	}
}

func hostileTables(t *testing.T, a, b, c int) {
	t.Helper()
	for _, table := range [][]api.Knot{{{X: a, Y: b}, {X: b, Y: c}}, {{X: -1, Y: a}, {X: 2, Y: b}}, hill()} {
		if r, e := units.Value(table, span(b, c)); e != api.OK && r != (api.Range{}) {
			t.Error("Value", table, b, c, r, e)
		}
		if l, e := units.Where(table, span(b, c)); e != api.OK && len(l) != 0 {
			t.Error("Where", table, b, c, l, e)
		}
		if r, e := units.Inverse(table, span(b, c)); e != api.OK && r != (api.Range{}) {
			t.Error("Inverse", table, b, c, r, e)
		}
		if r, at, e := units.Through([][]api.Knot{table, hill()}, span(b, c)); e != api.OK && r != (api.Range{}) || e != api.ErrNone && at != 0 {
			t.Error("Through", table, b, c, r, at, e)
		}
	}
}

// R4: no argument is changed, and results share no memory with arguments.
func TestArgumentsStayAsTheyAre(t *testing.T) {
	weights, parts, table := []int{2, 0, 1}, []api.Range{span(0, 10), span(3, 5), span(2, 9)}, hill()
	tables := [][]api.Knot{table, table}
	spoil := func() {
		if l, _ := units.Portions(10, weights); len(l) > 0 {
			l[0] = -99
		}
		units.Sum(parts)
		units.Hull(parts)
		units.Meet(parts)
		for _, whole := range []api.Range{span(18, 30), span(-most, most)} {
			if l, _, _ := units.Balance(parts, whole); len(l) > 0 {
				l[0] = span(-99, -99)
			}
		}
		units.CheckTable(table)
		units.Value(table, span(3, 12))
		if l, _ := units.Where(table, span(2, 4)); len(l) > 0 {
			l[0] = span(-99, -99)
		}
		units.Inverse(table, span(2, 4))
		units.Through(tables, span(3, 12))
	}
	for range 2 {
		spoil()
	}
	if !slices.Equal(weights, []int{2, 0, 1}) || !slices.Equal(parts, []api.Range{span(0, 10), span(3, 5), span(2, 9)}) || !slices.Equal(table, hill()) {
		t.Error(weights, parts, table)
	}
	if l, e := units.Where(table, span(2, 4)); e != api.OK || !slices.Equal(l, []api.Range{span(4, 8), span(12, 16)}) {
		t.Error("a result was kept", l, e)
	}
}
