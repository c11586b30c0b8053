package record_test

import (
	"math"
	"slices"
	"testing"

	"boule/api"
	"boule/record"
)

// turn returns a map turned by quarters.
func turn(t *testing.T, m api.WaferMap, quarters int) api.WaferMap {
	t.Helper()
	w, e := record.Turn(m, quarters)
	if e != api.OK {
		t.Fatal("Turn", m, quarters, e)
	}
	return w
}

// worst returns the worst of two maps.
func worst(t *testing.T, a, b api.WaferMap) api.WaferMap {
	t.Helper()
	w, e := record.Worst(a, b)
	if e != api.OK {
		t.Fatal("Worst", a, b, e)
	}
	return w
}

// P6.8, example 6.
func TestTurn(t *testing.T) {
	for q, want := range []api.WaferMap{
		sixCells(), mapOf([]int{1, 0}, []int{1, 0}, []int{0, 1}), mapOf([]int{0, 1, 1}, []int{1, 0, 0}), mapOf([]int{1, 0}, []int{0, 1}, []int{0, 1}),
	} {
		if m := turn(t, sixCells(), q); !sameMap(m, want) {
			t.Error(q, m)
		}
	}
	big := mapOf([]int{1, 2, 3, 4}, []int{5, 6, 7, 0}, []int{0, 0, 1, 1})
	if m := turn(t, big, 1); !sameMap(m, mapOf([]int{0, 5, 1}, []int{0, 6, 2}, []int{1, 7, 3}, []int{1, 0, 4})) {
		t.Error(m)
	}
}

// P6.8: the errors of Turn, and which one comes first.
func TestTurnErrors(t *testing.T) {
	for _, q := range []int{-1, 4, 5, math.MinInt, math.MaxInt} {
		if m, e := record.Turn(sixCells(), q); !sameMap(m, api.WaferMap{}) || e != api.ErrRange {
			t.Error(q, m, e)
		}
	}
	for _, bad := range badMaps() {
		for _, q := range []int{0, 1, 3, -1, 4} {
			if m, e := record.Turn(bad, q); !sameMap(m, api.WaferMap{}) || e != api.ErrArg {
				t.Error(bad, q, m, e)
			}
		}
	}
}

// P6.8: Worst, and its errors.
func TestWorst(t *testing.T) {
	a, b := mapOf([]int{0, 3, 7}, []int{1, 2, 0}), mapOf([]int{0, 2, 5}, []int{4, 2, 6})
	if m := worst(t, a, b); !sameMap(m, mapOf([]int{0, 3, 7}, []int{4, 2, 6})) {
		t.Error(m)
	}
	for _, other := range []api.WaferMap{turn(t, b, 1), mapOf([]int{0, 2, 5}), mapOf([]int{0, 2, 5, 1, 2, 3}), mapOf([]int{0, 2, 5}, []int{4, 2, 6}, []int{1, 2, 3})} {
		for _, pair := range [][2]api.WaferMap{{a, other}, {other, a}} {
			if m, e := record.Worst(pair[0], pair[1]); !sameMap(m, api.WaferMap{}) || e != api.ErrArg {
				t.Error(other, m, e)
			}
		}
	}
	for _, bad := range badMaps() {
		for _, pair := range [][2]api.WaferMap{{a, bad}, {bad, a}, {bad, bad}} {
			if m, e := record.Worst(pair[0], pair[1]); !sameMap(m, api.WaferMap{}) || e != api.ErrArg {
				t.Error(bad, m, e)
			}
		}
	}
}

// counts returns how many cells of each kind there are.
func counts(m api.WaferMap) (l [8]int) {
	for _, c := range m.Cells {
		l[c]++
	}
	return l
}

// P6.13: what turning and the worst one have to do with each other.
func TestTurnsAndWorst(t *testing.T) {
	r := dice()
	for range 300 {
		w, h := 1+r.Intn(60)>>r.Intn(6), 1+r.Intn(60)>>r.Intn(6)
		a, b := anyMap(r, w, h), anyMap(r, w, h)
		both := worst(t, a, b)
		if !sameMap(both, worst(t, b, a)) || !sameMap(worst(t, a, a), a) {
			t.Error("both ways round", a, b)
		}
		for p := range 4 {
			m := turn(t, a, p)
			if counts(m) != counts(a) || record.CheckMap(m) != api.OK {
				t.Error("counts", a, p, m)
			}
			for q := range 4 {
				if !sameMap(turn(t, m, q), turn(t, a, (p+q)%4)) {
					t.Error("turns", a, p, q)
				}
			}
			if !sameMap(worst(t, m, turn(t, b, p)), turn(t, both, p)) {
				t.Error("the turned worst one", a, b, p)
			}
		}
		for i := range both.Cells {
			if both.Cells[i] != max(a.Cells[i], b.Cells[i]) {
				t.Error("the greater one", a, b, both)
			}
		}
		slices.Reverse(a.Cells)
		slices.Reverse(b.Cells)
		if !sameMap(worst(t, a, b), turn(t, both, 2)) {
			t.Error("two quarters", both)
		}
	}
}
