package slice_test

import (
	"math"
	"math/big"
	"math/rand"
	"testing"

	"boule/api"
	"boule/slice"
)

// badForces are no forces, whatever the least one is.
var badForces = []int{-1, api.MaxForce + 1, math.MinInt, math.MaxInt}

// badLimits are none of a bow.
var badLimits = []int{-1, api.MaxForce*api.MaxForce + 1, math.MinInt, math.MaxInt}

// wantBow checks the results of Bow.
func wantBow(t *testing.T, stiffness api.Range, feed, tension int, bow api.Range, want api.Errno) {
	t.Helper()
	if r, e := slice.Bow(stiffness, feed, tension); r != bow || e != want {
		t.Error("Bow", stiffness, feed, tension, r, e, "want", bow, want)
	}
}

// wantFeed checks the results of Feed.
func wantFeed(t *testing.T, stiffness api.Range, tension, most, feed int, want api.Errno) {
	t.Helper()
	if n, e := slice.Feed(stiffness, tension, most); n != feed || e != want {
		t.Error("Feed", stiffness, tension, most, n, e, "want", feed, want)
	}
}

// P8.7.
func TestBow(t *testing.T) {
	wantBow(t, span(2, 3), 10, 4, span(5, 8), api.OK)
	wantBow(t, at(3), 10, 4, span(7, 8), api.OK)
	wantBow(t, at(2), 10, 4, at(5), api.OK)
	wantBow(t, span(0, 1), 1, api.MaxForce, span(0, 1), api.OK)
	wantBow(t, span(0, api.MaxForce), api.MaxForce, 1, span(0, api.MaxForce*api.MaxForce), api.OK)
	wantBow(t, span(5, 7), 0, 3, at(0), api.OK)
	wantBow(t, at(0), 7, 3, at(0), api.OK)
	wantBow(t, at(api.MaxForce), api.MaxForce, api.MaxForce, at(api.MaxForce), api.OK)
}

// P8.7.
func TestFeed(t *testing.T) {
	wantFeed(t, span(2, 3), 4, 7, 9, api.OK)
	wantFeed(t, at(3), 4, 9, 12, api.OK) // With 12 the bow is just 9.
	wantFeed(t, at(0), 4, 0, api.MaxForce, api.OK)
	wantFeed(t, span(1, 5), 4, 0, 0, api.OK)
	wantFeed(t, span(0, 1), 1, 0, 0, api.OK)
	wantFeed(t, at(1), api.MaxForce, api.MaxForce, api.MaxForce, api.OK)
	wantFeed(t, at(1), 1, api.MaxForce-1, api.MaxForce-1, api.OK)
	wantFeed(t, at(1), 1, api.MaxForce, api.MaxForce, api.OK)
	wantFeed(t, at(1), 1, api.MaxForce+1, api.MaxForce, api.OK)
	wantFeed(t, at(api.MaxForce), api.MaxForce, api.MaxForce*api.MaxForce, api.MaxForce, api.OK)
	wantFeed(t, at(api.MaxForce), api.MaxForce, 999999, 999999, api.OK)
	wantFeed(t, at(api.MaxForce), 1, 999999, 0, api.OK)
}

// P8.7: errors of both, and their order.
func TestForceErrors(t *testing.T) {
	for _, n := range badForces {
		wantBow(t, span(2, 3), n, 4, api.Range{}, api.ErrRange)
		wantBow(t, span(2, 3), 10, n, api.Range{}, api.ErrRange)
		wantFeed(t, span(2, 3), n, 7, 0, api.ErrRange)
	}
	wantBow(t, span(2, 3), 10, 0, api.Range{}, api.ErrRange)
	wantFeed(t, span(2, 3), 0, 7, 0, api.ErrRange)
	for _, n := range badLimits {
		wantFeed(t, span(2, 3), 4, n, 0, api.ErrRange)
	}
	for _, bad := range badAmounts(api.MaxForce) {
		wantBow(t, bad, 10, 4, api.Range{}, api.ErrArg)
		wantBow(t, bad, -1, 0, api.Range{}, api.ErrArg)
		wantFeed(t, bad, 4, 7, 0, api.ErrArg)
		wantFeed(t, bad, 0, -1, 0, api.ErrArg)
	}
}

// anyForce returns a force of any size from least on.
func anyForce(r *rand.Rand, least int) int {
	return least + r.Intn([]int{3, 50, api.MaxForce + 1 - least}[r.Intn(3)])
}

// bow returns the exact bow of a wire.
func bow(stiffness, feed, tension int) *big.Rat {
	return big.NewRat(int64(stiffness*feed), int64(tension))
}

// P8.7: the range has all bows, and less than 1 is between its ends and some bow.
func TestBowIsExact(t *testing.T) {
	r := dice()
	for range 5000 {
		x, y, feed, tension := anyForce(r, 0), anyForce(r, 0), anyForce(r, 0), anyForce(r, 1)
		stiffness := span(min(x, y), max(x, y))
		b, e := slice.Bow(stiffness, feed, tension)
		low, high := bow(stiffness.Low, feed, tension), bow(stiffness.High, feed, tension)
		if e != api.OK || bow(b.Low, 1, 1).Cmp(low) > 0 || bow(b.Low+1, 1, 1).Cmp(low) <= 0 || bow(b.High, 1, 1).Cmp(high) < 0 || bow(b.High-1, 1, 1).Cmp(high) >= 0 {
			t.Fatal(stiffness, feed, tension, b, e)
		}
	}
}

// P8.13: with the Feed no bow is above the limit, with one more some bow is.
func TestFeedIsTheGreatest(t *testing.T) {
	r := dice()
	limited := 0
	for range 5000 {
		x, y, tension := anyForce(r, 0), anyForce(r, 0), anyForce(r, 1)
		most := r.Intn([]int{5, api.MaxForce, api.MaxForce*api.MaxForce + 1}[r.Intn(3)])
		stiffness := span(min(x, y), max(x, y))
		feed, e := slice.Feed(stiffness, tension, most)
		limit := bow(most, 1, 1)
		if e != api.OK || feed < 0 || feed > api.MaxForce || bow(stiffness.High, feed, tension).Cmp(limit) > 0 {
			t.Fatal(stiffness, tension, most, feed, e)
		}
		if feed == api.MaxForce {
			continue
		}
		limited++
		if bow(stiffness.High, feed+1, tension).Cmp(limit) <= 0 {
			t.Fatal("one more", stiffness, tension, most, feed)
		}
		if b, e := slice.Bow(stiffness, feed, tension); e != api.OK || b.High > most {
			t.Fatal("Bow", stiffness, tension, most, feed, b, e)
		}
		if b, e := slice.Bow(stiffness, feed+1, tension); e != api.OK || b.High <= most {
			t.Fatal("Bow of one more", stiffness, tension, most, feed, b, e)
		}
	}
	if limited < 1000 {
		t.Error("few limits", limited)
	}
}
