package crop_test

import (
	"math"
	"math/rand"
	"slices"
	"testing"

	"boule/api"
	"boule/crop"
)

// wantOff checks the results of Off.
func wantOff(t *testing.T, x api.Tilt, s api.Swivel, off api.Range, want api.Errno) {
	t.Helper()
	if r, e := crop.Off(x, s); r != off || e != want {
		t.Error("Off", x, s, r, e, "want", off, want)
	}
}

// badTilts are not valid.
func badTilts() []api.Tilt {
	var l []api.Tilt
	for _, r := range []api.Range{span(1, 0), span(-36001, 0), span(0, 36001), span(36001, 36001), span(-36001, -36001), span(math.MinInt, 0), span(0, math.MaxInt), span(math.MinInt, math.MaxInt), span(math.MaxInt, math.MinInt)} {
		l = append(l, api.Tilt{X: r}, api.Tilt{Y: r}, api.Tilt{X: r, Y: r})
	}
	return l
}

// P7.8, and example 4.
func TestOff(t *testing.T) {
	wantOff(t, api.Tilt{X: span(10, 12)}, api.Swivel{X: -15}, span(3, 5), api.OK)
	wantOff(t, api.Tilt{X: span(10, 12)}, api.Swivel{X: -12}, span(0, 2), api.OK)
	wantOff(t, api.Tilt{X: span(10, 12)}, api.Swivel{X: -11}, span(0, 1), api.OK)
	wantOff(t, api.Tilt{X: span(10, 12)}, api.Swivel{X: -9}, span(1, 3), api.OK)
	wantOff(t, api.Tilt{X: span(-3, 2), Y: at(4)}, api.Swivel{Y: -6}, span(2, 5), api.OK)
	wantOff(t, tilt(5, -7), api.Swivel{X: -5, Y: 7}, span(0, 0), api.OK)
	wantOff(t, tilt(5, -7), api.Swivel{}, span(12, 12), api.OK)
	wantOff(t, tilt(36000, -36000), api.Swivel{X: 144000, Y: -144000}, span(360000, 360000), api.OK)
	wantOff(t, api.Tilt{X: span(-36000, 36000), Y: span(-36000, 36000)}, api.Swivel{X: -144000, Y: 144000}, span(216000, 360000), api.OK)
	wantOff(t, api.Tilt{X: span(-36000, 36000), Y: span(-36000, 36000)}, api.Swivel{}, span(0, 72000), api.OK)
}

// P7.8: all true tilts.
func TestOffOfAllTilts(t *testing.T) {
	r := dice()
	for range 3000 {
		x := anyTilts(r, 1, 5)[0]
		s := api.Swivel{X: r.Intn(17) - 8, Y: r.Intn(17) - 8}
		wantOff(t, x, s, plainOff(x, s), api.OK)
	}
}

// P7.8: errors, and their order.
func TestOffErrors(t *testing.T) {
	for _, n := range []int{144001, -144001, math.MinInt, math.MaxInt} {
		wantOff(t, tilt(1, 2), api.Swivel{X: n}, api.Range{}, api.ErrRange)
		wantOff(t, tilt(1, 2), api.Swivel{Y: n}, api.Range{}, api.ErrRange)
	}
	for _, bad := range badTilts() {
		wantOff(t, bad, api.Swivel{}, api.Range{}, api.ErrArg)
		wantOff(t, bad, api.Swivel{X: 144001}, api.Range{}, api.ErrArg)
	}
}

// P7.9, and examples 4 and 5.
func TestTurn(t *testing.T) {
	half := api.Tilt{X: span(0, 1), Y: span(0, 1)}
	row := []api.Tilt{tilt(0, 0), tilt(1, 0), tilt(7, 0)}
	for _, c := range []struct {
		name      string
		l         []api.Tilt
		tolerance int
		want      api.Swivel
		e         api.Errno
	}{
		{"example 4", []api.Tilt{{X: span(10, 12)}}, 5, api.Swivel{X: -15}, api.OK},
		{"example 5", []api.Tilt{half}, 1, api.Swivel{}, api.ErrTurn},
		{"example 5 with a tolerance of 2", []api.Tilt{half}, 2, api.Swivel{X: -1, Y: -1}, api.OK},
		{"only one", []api.Tilt{tilt(3, -4)}, 0, api.Swivel{X: -3, Y: 4}, api.OK},
		{"no range suits without a tolerance", []api.Tilt{{X: span(3, 4)}}, 0, api.Swivel{}, api.ErrTurn},
		{"two that are the same", []api.Tilt{tilt(3, -4), tilt(3, -4)}, 0, api.Swivel{X: -3, Y: 4}, api.OK},
		{"two that are not", []api.Tilt{tilt(3, -4), tilt(3, -5)}, 0, api.Swivel{}, api.ErrTurn},
		{"three in a row", row, 4, api.Swivel{X: -4}, api.OK},
		{"three in a row, too far", row, 3, api.Swivel{}, api.ErrTurn},
		{"the least Y of the least X", []api.Tilt{tilt(0, 0), tilt(1, 0)}, 2, api.Swivel{X: -2, Y: 0}, api.OK},
		{"the lesser one of two Y", []api.Tilt{tilt(0, 0), tilt(0, 1), tilt(-1, 0), tilt(-1, 1)}, 3, api.Swivel{X: -1, Y: -1}, api.OK},
		{"one of two Y suits no block", []api.Tilt{tilt(0, 0), tilt(1, 1), tilt(0, 1)}, 1, api.Swivel{X: 0, Y: -1}, api.OK},
		{"the other one suits no block", []api.Tilt{tilt(0, 0), tilt(0, 1), tilt(1, 0)}, 1, api.Swivel{}, api.OK},
		{"neither of them suits all blocks", []api.Tilt{tilt(0, 0), tilt(1, 1), tilt(0, 1), tilt(1, 0)}, 1, api.Swivel{}, api.ErrTurn},
		{"the greatest tolerance", []api.Tilt{tilt(36000, 0), tilt(-36000, 0)}, 36000, api.Swivel{}, api.OK},
		{"as far as it goes", []api.Tilt{tilt(36000, -36000)}, 36000, api.Swivel{X: -72000, Y: 36000}, api.OK},
		{"too wide for the greatest tolerance", []api.Tilt{{X: span(-36000, 36000), Y: span(0, 1)}}, 36000, api.Swivel{}, api.ErrTurn},
		{"only halves for the greatest tolerance", []api.Tilt{{X: span(-36000, 35999), Y: span(0, 1)}}, 36000, api.Swivel{}, api.ErrTurn},
		{"just not too wide", []api.Tilt{{X: span(-35999, 35999), Y: span(-1, 1)}}, 36000, api.Swivel{}, api.OK},
		{"ten blocks", append(slices.Repeat([]api.Tilt{tilt(3, 4)}, 9), tilt(5, 4)), 1, api.Swivel{X: -4, Y: -4}, api.OK},
	} {
		if x, e := crop.Turn(c.l, c.tolerance); x != c.want || e != c.e {
			t.Error(c.name, x, e)
		}
	}
}

// P7.10, and example 5.
func TestConflict(t *testing.T) {
	half := api.Tilt{X: span(0, 1), Y: span(0, 1)}
	row := []api.Tilt{tilt(0, 0), tilt(1, 0), tilt(7, 0)}
	for _, c := range []struct {
		name      string
		l         []api.Tilt
		tolerance int
		want      []int
		e         api.Errno
	}{
		{"example 5", []api.Tilt{half}, 1, []int{0}, api.OK},
		{"a block by itself", []api.Tilt{tilt(10, 0), half}, 1, []int{1}, api.OK},
		{"the first one of two by themselves", []api.Tilt{tilt(10, 0), half, half}, 1, []int{1}, api.OK},
		{"two", row, 3, []int{0, 2}, api.OK},
		{"the smallest one of two lists", row, 2, []int{0, 2}, api.OK},
		{"the smallest one of all lists", row, 0, []int{0, 1}, api.OK},
		{"the last two", []api.Tilt{tilt(0, 0), tilt(3, 0), tilt(-3, 0)}, 2, []int{1, 2}, api.OK},
		{"three", []api.Tilt{{X: span(0, 1)}, tilt(1, 1), tilt(0, 1)}, 1, []int{0, 1, 2}, api.OK},
		{"three of four", []api.Tilt{{X: span(0, 1)}, tilt(1, 1), {X: span(0, 1)}, tilt(0, 1)}, 1, []int{0, 1, 3}, api.OK},
		{"four", []api.Tilt{tilt(0, 0), tilt(1, 1), tilt(0, 1), tilt(1, 0)}, 1, []int{0, 1, 2, 3}, api.OK},
		{"four of ten", append(slices.Repeat([]api.Tilt{tilt(0, 0)}, 6), tilt(1, 1), tilt(0, 1), tilt(0, 1), tilt(1, 0)), 1, []int{0, 6, 7, 9}, api.OK},
		{"the last two of ten", append(slices.Repeat([]api.Tilt{tilt(0, 0)}, 8), tilt(3, 0), tilt(-3, 0)), 2, []int{8, 9}, api.OK},
		{"two that come later than three", []api.Tilt{{X: span(0, 1)}, tilt(1, 1), tilt(0, 1), tilt(-1, 2)}, 1, []int{0, 3}, api.OK},
		{"no conflict", row, 4, nil, api.ErrAgree},
		{"no conflict of one", row[:1], 0, nil, api.ErrAgree},
		{"no conflict of ten", slices.Repeat([]api.Tilt{tilt(-7, 3)}, 10), 0, nil, api.ErrAgree},
	} {
		if l, e := crop.Conflict(c.l, c.tolerance); !slices.Equal(l, c.want) || e != c.e {
			t.Error(c.name, l, e)
		}
	}
}

// P7.9, P7.10: errors of both, and their order.
func TestTurnErrors(t *testing.T) {
	good := []api.Tilt{tilt(0, 0), tilt(36000, -36000), {X: span(-36000, 36000), Y: span(-36000, 36000)}}
	wantBoth := func(l []api.Tilt, tolerance int, want api.Errno) {
		t.Helper()
		if x, e := crop.Turn(l, tolerance); x != (api.Swivel{}) || e != want {
			t.Error("Turn", l, tolerance, x, e, "want", want)
		}
		if x, e := crop.Conflict(l, tolerance); len(x) != 0 || e != want {
			t.Error("Conflict", l, tolerance, x, e, "want", want)
		}
	}
	for _, tolerance := range []int{-1, 36001, math.MinInt, math.MaxInt} {
		wantBoth(good, tolerance, api.ErrRange)
		wantBoth(make([]api.Tilt, 10), tolerance, api.ErrRange)
		wantBoth(make([]api.Tilt, 11), tolerance, api.ErrLong)
		wantBoth(nil, tolerance, api.ErrArg)
		wantBoth([]api.Tilt{}, tolerance, api.ErrArg)
	}
	for _, bad := range badTilts() {
		for i := range good {
			l := slices.Clone(good)
			l[i] = bad
			wantBoth(l, 5, api.ErrArg)
			wantBoth(l, -1, api.ErrArg)
		}
		wantBoth(slices.Repeat([]api.Tilt{bad}, 11), 5, api.ErrLong)
	}
}

// tightTilts returns so many tilts of which all, or all but few, suit a saw with
// a tolerance of 1.
func tightTilts(r *rand.Rand, n int) []api.Tilt {
	var l []api.Tilt
	for range n {
		x := tilt(r.Intn(2), r.Intn(2))
		if r.Intn(4) == 0 {
			x.X = span(0, 1)
		}
		l = append(l, x)
	}
	return l
}

// P7.9, P7.10, P7.14: as all settings, and all sets of blocks, say.
func TestAllSettings(t *testing.T) {
	r := dice()
	count := map[int]int{}
	for range 6000 {
		n, most, tolerance := 1+r.Intn(6), 1+r.Intn(3), r.Intn(6)
		l := anyTilts(r, n, most)
		if r.Intn(2) == 0 { // Then halves are often all that is left.
			l, tolerance = tightTilts(r, n), 1
		}
		all := settings(l, tolerance, most+tolerance+1)
		want, ok := plainTurn(all, 1<<len(l)-1)
		turn, agree := api.OK, api.ErrAgree
		if !ok {
			turn, agree = api.ErrTurn, api.OK
		}
		if x, e := crop.Turn(l, tolerance); x != want || e != turn {
			t.Fatal("Turn", l, tolerance, x, e, "want", want, turn)
		}
		conflict := plainConflict(all, len(l))
		count[len(conflict)]++
		if x, e := crop.Conflict(l, tolerance); !slices.Equal(x, conflict) || e != agree {
			t.Fatal("Conflict", l, tolerance, x, e, "want", conflict, agree)
		}
	}
	for n := range 5 {
		if count[n] < 10 {
			t.Error("few conflicts of some sizes", count)
		}
	}
}

// P7.9, P7.14: a setting of Turn suits all blocks, also with narrower ranges and
// with a greater tolerance, and so it has then a setting that is not greater.
func TestKnownBetter(t *testing.T) {
	r := dice()
	narrow := func(x api.Range) api.Range {
		low := x.Low + r.Intn(x.High-x.Low+1)
		return span(low, low+r.Intn(x.High-low+1))
	}
	suits := func(l []api.Tilt, tolerance int, x api.Swivel) bool {
		return !slices.ContainsFunc(l, func(y api.Tilt) bool {
			off, e := crop.Off(y, x)
			return off.High > tolerance || e != api.OK
		})
	}
	turned := 0
	for range 5000 {
		most := []int{5, 100, 18000}[r.Intn(3)]
		l, tolerance := anyTilts(r, 1+r.Intn(4), most), min(r.Intn(4*most), api.MaxTilt)
		x, e := crop.Turn(l, tolerance)
		if e != api.OK {
			continue
		}
		turned++
		better := slices.Clone(l)
		for i, y := range l {
			better[i] = api.Tilt{X: narrow(y.X), Y: narrow(y.Y)}
		}
		more := tolerance + r.Intn(api.MaxTilt-tolerance+1)
		if !suits(l, tolerance, x) || !suits(better, tolerance, x) || !suits(l, more, x) {
			t.Fatal("does not suit", l, better, tolerance, more, x)
		}
		for _, y := range []api.Swivel{turn(t, better, tolerance), turn(t, l, more)} {
			if slices.Compare([]int{y.X, y.Y}, []int{x.X, x.Y}) > 0 {
				t.Fatal("a greater setting", l, better, tolerance, more, x, y)
			}
		}
	}
	if turned < 1000 {
		t.Error("few settings", turned)
	}
}

// turn returns what Turn returns for arguments that have a setting.
func turn(t *testing.T, l []api.Tilt, tolerance int) api.Swivel {
	t.Helper()
	x, e := crop.Turn(l, tolerance)
	if e != api.OK {
		t.Fatal("Turn", l, tolerance, e)
	}
	return x
}

// P7.14: a Conflict has at most four blocks, and without any one of them the
// others have a setting.
func TestConflictsAreSmall(t *testing.T) {
	r := dice()
	found := 0
	for range 3000 {
		most := []int{2, 100, 36000}[r.Intn(3)]
		l, tolerance := anyTilts(r, 1+r.Intn(10), most), min(r.Intn(4*most), api.MaxTilt)
		_, turned := crop.Turn(l, tolerance)
		x, e := crop.Conflict(l, tolerance)
		if (e == api.OK) != (turned == api.ErrTurn) || (e == api.ErrAgree) != (turned == api.OK) {
			t.Fatal("either, or", l, tolerance, turned, e)
		}
		if e != api.OK {
			continue
		}
		found++
		if len(x) == 0 || len(x) > 4 {
			t.Fatal("Conflict", l, tolerance, x)
		}
		var blocks []api.Tilt
		for _, i := range x {
			blocks = append(blocks, l[i])
		}
		if _, e := crop.Turn(blocks, tolerance); e != api.ErrTurn {
			t.Fatal("a setting suits the blocks", l, tolerance, x, e)
		}
		for i := range blocks {
			if others := slices.Delete(slices.Clone(blocks), i, i+1); len(others) > 0 {
				turn(t, others, tolerance)
			}
		}
	}
	if found < 500 {
		t.Error("few conflicts", found)
	}
}
