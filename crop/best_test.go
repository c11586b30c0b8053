package crop_test

import (
	"math"
	"math/rand"
	"slices"
	"testing"

	"boule/api"
	"boule/crop"
)

// P7.5, and example 2.
func TestBest(t *testing.T) {
	for _, c := range []struct {
		name  string
		l     []api.Stretch
		s     api.Saw
		want  []api.Block
		total int
	}{
		{"example 2", example(), saw(4, 8, 1), list(0, 4, 5, 10, 14, 18, 19, 26), 78},
		{"no boule", nil, saw(4, 8, 1), nil, 0},
		{"too short", made([2]int{3, 9}), saw(4, 8, 1), nil, 0},
		{"just long enough", made([2]int{4, 9}), saw(4, 8, 1), list(0, 4), 36},
		{"worth nothing", made([2]int{5, 0}), saw(4, 8, 1), nil, 0},
		{"can not be used", made([2]int{50, -1}), saw(4, 8, 1), nil, 0},
		{"nothing behind what is worth something", made([2]int{5, 1}, [2]int{50, 0}), saw(4, 8, 1), list(0, 5), 5},
		{"nothing before what is worth something", made([2]int{50, 0}, [2]int{5, 1}), saw(4, 8, 1), list(50, 55), 5},
		{"with a part that is worth less", made([2]int{3, 7}, [2]int{3, 2}), saw(4, 6, 0), list(0, 6), 12},
		{"without a part that is worth less", made([2]int{3, 7}, [2]int{3, 2}), saw(1, 6, 0), list(0, 3, 3, 6), 27},
		{"a block through several stretches", made([2]int{1, 3}, [2]int{1, 3}, [2]int{1, 3}), saw(2, 3, 1), list(0, 3), 9},
		{"the fewest blocks", made([2]int{8, 1}), saw(1, 4, 0), list(0, 4, 4, 8), 8},
		{"the fewest blocks, then the smallest list", made([2]int{7, 1}), saw(1, 4, 0), list(0, 3, 3, 7), 7},
		{"the first one of several places", made([2]int{9, 1}), saw(4, 4, 20), list(0, 4), 4},
		{"the shortest one is the smallest list", made([2]int{9, 1}), saw(1, 7, 1), list(0, 1, 2, 9), 8},
		{"the fewest blocks, though shorter ones come earlier", made([2]int{9, 1}), saw(1, 8, 1), list(0, 8), 8},
		{"a shorter one, but earlier", made([2]int{4, 1}, [2]int{1, -1}, [2]int{2, 2}), saw(2, 4, 20), list(0, 4), 4},
		{"a longer one that is dearer, though later", made([2]int{1, 4}, [2]int{1, -1}, [2]int{5, 1}), saw(1, 5, 20), list(2, 7), 5},
		{"a kerf that goes over the end", made([2]int{10, 1}), saw(8, 8, 20), list(0, 8), 8},
		{"the longest and the dearest", made([2]int{3000, 1000}), saw(600, 600, 0), list(0, 600, 600, 1200, 1200, 1800, 1800, 2400, 2400, 3000), 3000000},
	} {
		if l, total := best(t, c.l, c.s); !slices.Equal(l, c.want) || total != c.total {
			t.Error(c.name, l, total)
		}
	}
}

// P7.5, P7.6, P7.11: as good as the best one of all croppings, with the least of all proofs.
func TestBestOfAllCroppings(t *testing.T) {
	r := dice()
	many := 0
	for range 1500 {
		l, s := anyBoule(r, 11), anySaw(r)
		want, total := plainBest(l, s)
		if len(want) > 1 {
			many++
		}
		if x, n := best(t, l, s); !slices.Equal(x, want) || n != total {
			t.Fatal("Best", l, s, x, n, "want", want, total)
		}
		if b := bounds(t, l, s); !slices.Equal(b, plainBounds(l, s)) || b[0] != total {
			t.Fatal("Bounds", l, s, b, "want", plainBounds(l, s), total)
		}
	}
	if many < 300 {
		t.Error("few croppings of several blocks", many)
	}
}

// P7.5, P7.6, P7.12: of long boules, whatever is returned fits together.
func TestLongBoules(t *testing.T) {
	r := dice()
	for range 40 {
		var l []api.Stretch
		for range r.Intn(61) {
			l = append(l, api.Stretch{Length: 1 + r.Intn(50), Worth: max(-1, r.Intn(1010)-10)})
		}
		least := 1 + r.Intn(100)
		s := saw(least, least+r.Intn(501), r.Intn(21))
		x, total := best(t, l, s)
		if n, e := crop.Total(l, s, x); n != total || e != api.OK {
			t.Fatal("Total", l, s, x, n, total, e)
		}
		b := bounds(t, l, s)
		if len(b) != lengthOf(l)+1 || b[0] != total || !proves(t, l, s, b) {
			t.Fatal("Bounds", l, s, total, b)
		}
		if c, e := crop.Account(l, s, x); c.Blocks+c.Kerf+c.Scrap != lengthOf(l) || e != api.OK {
			t.Fatal("Account", l, s, x, c, e)
		}
	}
}

// P7.6.
func TestProves(t *testing.T) {
	short, s := made([2]int{5, 2}), saw(2, 3, 0)
	kerf := saw(2, 3, 2)
	for _, c := range []struct {
		name string
		s    api.Saw
		b    []int
		want bool
	}{
		{"the least one", s, []int{10, 8, 6, 4, 0, 0}, true},
		{"more at first", s, []int{11, 8, 6, 4, 0, 0}, true},
		{"more everywhere", s, []int{20, 18, 9, 6, 2, 1}, true},
		{"more everywhere, up to the limit", s, []int{api.MaxNumber, api.MaxNumber, 6, 4, 0, 0}, true},
		{"far above", s, []int{api.MaxNumber, api.MaxNumber, api.MaxNumber, api.MaxNumber - 4, api.MaxNumber - 6, api.MaxNumber - 10}, false},
		{"as far above as can be", s, []int{api.MaxNumber, api.MaxNumber - 2, api.MaxNumber - 4, api.MaxNumber - 6, api.MaxNumber - 10, api.MaxNumber - 10}, true},
		{"above the limit", s, []int{api.MaxNumber + 1, 8, 6, 4, 0, 0}, false},
		{"far above the limit", s, []int{math.MaxInt, 8, 6, 4, 0, 0}, false},
		{"all of them above all limits", s, slices.Repeat([]int{math.MaxInt}, 6), false},
		{"all of them below all limits", s, slices.Repeat([]int{math.MinInt}, 6), false},
		{"the same everywhere", s, slices.Repeat([]int{10}, 6), false},
		{"one less", s, []int{10, 8, 6, 4, 0}, false},
		{"one more", s, []int{10, 8, 6, 4, 0, 0, 0}, false},
		{"none", s, nil, false},
		{"too little for two blocks", s, []int{9, 8, 6, 4, 0, 0}, false},
		{"too little for one block", s, []int{10, 8, 6, 3, 0, 0}, false},
		{"one grows", s, []int{10, 8, 6, 4, 0, 1}, false},
		{"one grows in the middle", s, []int{13, 8, 9, 4, 0, 0}, false},
		{"one below 0", s, []int{10, 8, 6, 4, 0, -1}, false},
		{"all of them lower", s, []int{9, 7, 5, 3, -1, -1}, false},
		{"kerf: the least one", kerf, []int{6, 6, 6, 4, 0, 0}, true},
		{"kerf: behind it is the end", kerf, []int{7, 7, 7, 5, 1, 1}, true},
		{"kerf: behind it is the end, which is more", kerf, []int{6, 6, 6, 5, 1, 1}, false},
		{"kerf: behind it is the next place", kerf, []int{6, 6, 6, 4, 1, 0}, true},
		{"kerf: too much at the next place", kerf, []int{6, 6, 6, 4, 3, 0}, false},
	} {
		if got := proves(t, short, c.s, c.b); got != c.want {
			t.Error(c.name, got)
		}
	}
	if !proves(t, nil, s, []int{0}) || !proves(t, nil, s, []int{5}) || proves(t, nil, s, nil) || proves(t, nil, s, []int{-1}) || proves(t, nil, s, []int{0, 0}) {
		t.Error("no boule")
	}
	if b := bounds(t, nil, s); !slices.Equal(b, []int{0}) {
		t.Error("no boule", b)
	}
	if b := bounds(t, made([2]int{3, -1}), s); !slices.Equal(b, []int{0, 0, 0, 0}) {
		t.Error("no blocks", b)
	}
}

// anyBounds changes some numbers of a proof by little.
func anyBounds(r *rand.Rand, b []int) []int {
	b = slices.Clone(b)
	for range r.Intn(3) {
		b[r.Intn(len(b))] += r.Intn(5) - 2
	}
	if r.Intn(2) == 0 {
		up := r.Intn(4)
		for i := range 1 + r.Intn(len(b)) {
			b[i] += up
		}
	}
	return b
}

// P7.6, P7.11: a list is a proof just if all conditions are true of it; then no
// number is less than that of Bounds, and no cropping has a greater total.
func TestAllProofs(t *testing.T) {
	r := dice()
	count := map[bool]int{}
	for range 5000 {
		l, s := anyBoule(r, 10), anySaw(r)
		least := bounds(t, l, s)
		b := anyBounds(r, least)
		ok := proves(t, l, s, b)
		if ok != plainProves(l, s, b) {
			t.Fatal("Proves", l, s, b, ok)
		}
		count[ok]++
		if !ok {
			continue
		}
		for i := range b {
			if b[i] < least[i] {
				t.Fatal("a number of Bounds could be less", l, s, b, least)
			}
		}
		if _, total := best(t, l, s); total > b[0] || total != least[0] {
			t.Fatal("a greater total", l, s, b, total)
		}
	}
	if count[true] < 1000 || count[false] < 1000 {
		t.Error("mostly the same", count)
	}
}

// P7.13: better stretches and saws, and boules that are turned round.
func TestBetterBoules(t *testing.T) {
	r := dice()
	for range 3000 {
		l, s := anyBoule(r, 30), anySaw(r)
		_, total := best(t, l, s)

		more := slices.Clone(l)
		for i := range more {
			more[i].Worth += r.Intn(2)
		}
		better := saw(s.Least-r.Intn(s.Least), s.Most+r.Intn(3), s.Kerf-r.Intn(s.Kerf+1))
		for _, c := range []struct {
			l []api.Stretch
			s api.Saw
		}{{more, s}, {l, better}, {more, better}} {
			if _, n := best(t, c.l, c.s); n < total {
				t.Fatal("the total fell", l, s, total, c, n)
			}
		}

		turned := slices.Clone(l)
		slices.Reverse(turned)
		if _, n := best(t, turned, s); n != total {
			t.Fatal("turned round", l, s, total, n)
		}
	}
}
