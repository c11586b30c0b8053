package melt_test

import (
	"math"
	"math/big"
	"math/rand"
	"slices"
	"testing"

	"boule/api"
	"boule/melt"
)

// P3.5, and example 3.
func TestConcentration(t *testing.T) {
	for _, c := range []struct {
		x    api.Frozen
		s    api.Species
		want api.Range
		e    api.Errno
	}{
		{slice(100, 300, 400), api.Dopant, span(3000000, 4000000), api.OK},
		{slice(300, 100, 101), api.Oxygen, span(333333, 336667), api.OK},
		{slice(7, 0, 0), api.Carbon, span(0, 0), api.OK},
		{api.Frozen{Mass: 1000000, Content: unlike(span(1, 2), span(3, 4), span(5, 6))}, api.Carbon, span(5, 6), api.OK},
		{slice(1000000000, 1, 1), api.Dopant, span(0, 1), api.OK},
		{slice(1000000000, 1000000000000, 1000000000000), api.Dopant, span(1000000000, 1000000000), api.OK},
		{slice(1000, 0, 1000000000000), api.Dopant, span(0, 1000000000000000), api.OK},
		{slice(1, 1000000000, 1000000000), api.Dopant, span(1000000000000000, 1000000000000000), api.OK},
		{slice(1, 0, 1000000001), api.Dopant, api.Range{}, api.ErrOver},
		{slice(1, 1000000001, 1000000001), api.Dopant, api.Range{}, api.ErrOver},
		{slice(999, 0, 1000000000000), api.Dopant, api.Range{}, api.ErrOver},
		{slice(999999999, 1000000000000, 1000000000000), api.Dopant, span(1000000001, 1000000002), api.OK},
		{slice(1, 1, 1), 3, api.Range{}, api.ErrNone},
		{slice(1, 1, 1), -1, api.Range{}, api.ErrNone},
		{slice(0, 1, 1), math.MaxInt, api.Range{}, api.ErrNone},
		{slice(0, 1, 1), 0, api.Range{}, api.ErrArg},
		{slice(-1, 1, 1), 0, api.Range{}, api.ErrArg},
		{slice(1000000001, 1, 1), 0, api.Range{}, api.ErrArg},
		{slice(1, -1, 1), 0, api.Range{}, api.ErrArg},
		{slice(1, 2, 1), 0, api.Range{}, api.ErrArg},
		{slice(1000000, 1, 1000000000001), 0, api.Range{}, api.ErrArg},
		{slice(1, 1000000001, 1000000000001), 0, api.Range{}, api.ErrArg},
		{api.Frozen{Mass: 1000000, Content: unlike(span(-1, 2), span(7, 8), span(2, 1))}, api.Oxygen, span(7, 8), api.OK},
	} {
		if r, e := melt.Concentration(c.x, c.s); r != c.want || e != c.e {
			t.Error(c.x, c.s, r, e)
		}
	}
}

// P3.5: any numbers, rounded outwards.
func TestConcentrationOfAnySlice(t *testing.T) {
	r := dice()
	for range 2000 {
		x := api.Frozen{Mass: 1 + r.Intn(api.MaxMelt), Content: anyBounds(r, api.MaxContent)}
		if r.Intn(2) == 0 {
			x.Mass = 1 + r.Intn(5000)
		}
		for s, y := range x.Content {
			want, e := span(quotient(1000000, y.Low, 1, x.Mass, 1, false), quotient(1000000, y.High, 1, x.Mass, 1, true)), api.OK
			if want.High > api.MaxNumber {
				want, e = api.Range{}, api.ErrOver
			}
			if got, f := melt.Concentration(x, api.Species(s)); got != want || f != e {
				t.Fatal(x, s, got, f, want, e)
			}
		}
	}
}

// P3.6, and example 3: a slice of 100 mg with 300 to 400 units.
func TestJudge(t *testing.T) {
	l := []api.Step{freeze(100, like(3000, 4000))}
	for _, c := range []struct {
		low, high int
		want      api.Grade
	}{
		{2000000, 3500000, api.Possibly},
		{3000000, 4000000, api.Surely},
		{0, 1000000000000, api.Surely},
		{3000001, 4000000, api.Possibly},
		{3000000, 3999999, api.Possibly},
		{3500000, 3500000, api.Possibly},
		{0, 3000000, api.Possibly},
		{4000000, 4000000, api.Possibly},
		{0, 2999999, api.Never},
		{4000001, 5000000, api.Never},
		{3000001, 3009999, api.Never}, // Between 300 and 301 units there are none.
		{3000001, 3010000, api.Possibly},
		{1000000000000, 1000000000000, api.Never},
		{0, 0, api.Never},
	} {
		g, e := melt.Judge(example(), l, api.Dopant, span(c.low, c.high))
		if e != api.OK || !slices.Equal(g, []api.Grade{c.want}) {
			t.Error(c, g, e)
		}
	}
	three := []api.Step{freeze(100, unlike(span(3000, 4000), span(0, 0), span(0, 0))), absorb(unlike(span(0, 0), span(1, 2), span(0, 0))), freeze(300, like(0, 0)), freeze(600, like(0, 0))}
	for s, want := range [][]api.Grade{{api.Surely, api.Never, api.Never}, {api.Never, api.Never, api.Possibly}, {api.Never, api.Never, api.Never}} {
		target := []api.Range{span(3000000, 4000000), span(16670000, 16670000), span(1, 2)}[s]
		if g, e := melt.Judge(example(), three, api.Species(s), target); e != api.OK || !slices.Equal(g, want) {
			t.Error(s, g, e)
		}
	}
	if g, e := melt.Judge(example(), nil, api.Carbon, span(0, 0)); e != api.OK || len(g) != 0 {
		t.Error("no slices", g, e)
	}
}

// P3.6: the greatest products.
func TestJudgeGreatNumbers(t *testing.T) {
	const most = api.MaxContent
	m := api.Melt{Mass: api.MaxMelt, Content: like(most, most)}
	l := []api.Step{absorb(like(most-1, most)), freeze(api.MaxMelt, like(0, 0))}
	for _, c := range []struct {
		target api.Range
		want   api.Grade
	}{
		{span(2000000000, 2000000000), api.Possibly}, // 2 * most units, and not one less.
		{span(1999999999, 2000000000), api.Surely},
		{span(2000000001, most), api.Never},
		{span(most, most), api.Never},
		{span(0, 1999999999), api.Never},
		{span(0, most), api.Surely},
	} {
		if g, e := melt.Judge(m, l, api.Oxygen, c.target); e != api.OK || !slices.Equal(g, []api.Grade{c.want}) {
			t.Error(c.target, g, e)
		}
	}
}

// P3.6: invalid species and targets, in this order.
func TestJudgeErrors(t *testing.T) {
	l := []api.Step{freeze(100, like(3000, 4000))}
	for _, c := range []struct {
		s      api.Species
		target api.Range
		want   api.Errno
	}{
		{3, span(0, 1), api.ErrNone},
		{-1, span(0, 1), api.ErrNone},
		{math.MinInt, span(2, 1), api.ErrNone},
		{0, span(2, 1), api.ErrArg},
		{0, span(-1, 1), api.ErrArg},
		{0, span(0, 1000000000001), api.ErrArg},
		{2, span(math.MinInt, math.MaxInt), api.ErrArg},
	} {
		if g, e := melt.Judge(example(), l, c.s, c.target); e != c.want || len(g) != 0 {
			t.Error(c, g, e)
		}
	}
}

// plainGrade looks at the content of a slice in all courses.
func plainGrade(all []way, slice, mass int, target api.Range) api.Grade {
	met := 0
	for _, w := range all {
		if n := 1000000 * w.slices[slice]; n >= target.Low*mass && n <= target.High*mass {
			met++
		}
	}
	switch met {
	case 0:
		return api.Never
	case len(all):
		return api.Surely
	}
	return api.Possibly
}

// P3.6: in every course, in none, or in some.
func TestJudgeAgainstAllCourses(t *testing.T) {
	r := dice()
	seen := map[api.Grade]int{}
	for range 500 {
		m, l := anyRun(r, 4, 7, 4)
		for s := range 3 {
			all := ways(m, l, s)
			for range 5 {
				target := anyRange(r, 20)
				target.Low, target.High = target.Low*100000+r.Intn(3)-1, target.High*100000+r.Intn(3)-1
				target.Low, target.High = max(0, target.Low), max(0, target.Low, target.High)
				g, e := melt.Judge(m, l, api.Species(s), target)
				if e != api.OK || len(g) != len(masses(l)) {
					t.Fatal(m, l, s, target, g, e)
				}
				for i, mass := range masses(l) {
					if want := plainGrade(all, i, mass, target); g[i] != want {
						t.Fatal(m, l, s, target, "slice", i, "is", g[i], "wants", want)
					}
					seen[g[i]]++
				}
			}
		}
	}
	if len(seen) != 3 {
		t.Error("grades that were seen", seen)
	}
}

func at(n int) api.Range { return span(n, n) }

// P3.7, and example 4.
func TestRefill(t *testing.T) {
	full := api.Melt{Mass: api.MaxMelt, Content: like(5, 5)}
	for _, c := range []struct {
		name                      string
		m                         api.Melt
		feed, coefficient, target api.Range
		want                      int
		e                         api.Errno
	}{
		{"example 4", example(), at(0), at(3500), span(0, 1750000), 1000, api.OK},
		{"a bit less", example(), at(0), at(3500), span(0, 1749999), 1001, api.OK},
		{"it is met already", example(), at(0), at(3500), span(0, 3500000), 0, api.OK},
		{"it is just not met", example(), at(0), at(3500), span(0, 3499999), 1, api.OK},
		{"just one concentration", example(), at(0), at(3500), at(1750000), 1000, api.OK},
		{"it never gets more", example(), at(0), at(3500), at(3500001), 0, api.ErrFull},
		{"richer feed", example(), at(20000000), at(10000), span(15000000, 20000000), 1000, api.OK},
		{"feed that is too rich", example(), at(20000000), at(10000), span(15000000, 15000000), 1000, api.OK},
		{"between two masses", example(), at(20000000), at(10000), span(15000001, 15000002), 0, api.ErrFull},
		{"both ends", example(), span(0, 1000000), span(3000, 4000), span(1000000, 2500000), 715, api.OK},
		{"one end forbids what the other one wants", example(), at(0), span(3000, 4000), span(2000000, 2500000), 0, api.ErrFull},
		{"a wide feed", example(), span(0, 20000000), at(10000), span(15000000, 20000000), 0, api.ErrFull},
		{"a melt of nothing", api.Melt{}, at(1000), at(10000), at(1000), 1, api.OK},
		{"a melt of nothing, and feed that is too rich", api.Melt{}, at(1001), at(10000), at(1000), 0, api.ErrFull},
		{"nothing but contents", api.Melt{Content: like(6, 8)}, at(0), at(10000), span(0, 2000000), 4, api.OK},
		{"just full", api.Melt{Mass: 500000000, Content: like(1000000000, 1000000000)}, at(0), at(1), span(0, 100), 500000000, api.OK},
		{"room but for one mg", api.Melt{Mass: 500000000, Content: like(1000000001, 1000000001)}, at(0), at(1), span(0, 100), 0, api.ErrFull},
		{"a full melt that is good", full, at(0), at(0), at(0), 0, api.OK},
		{"a full melt that is not", full, at(0), at(1), at(0), 0, api.ErrFull},
		{"no coefficient", example(), at(1000000000), at(0), span(0, 0), 0, api.OK},
		{"no coefficient, and a target above 0", example(), at(1000000000), at(0), span(1, 1), 0, api.ErrFull},
	} {
		if x, e := melt.Refill(c.m, c.feed, c.coefficient, c.target, api.Oxygen); x != c.want || e != c.e {
			t.Error(c.name, x, e)
		}
	}
}

// P3.7: the species that is meant, and no other one.
func TestRefillSpecies(t *testing.T) {
	m := api.Melt{Mass: 100, Content: unlike(at(1), at(2), at(3))}
	for s, want := range []int{0, 100, 200} {
		if x, e := melt.Refill(m, at(0), at(10000), span(0, 10000), api.Species(s)); x != want || e != api.OK {
			t.Error(s, x, e)
		}
	}
}

// P3.7: invalid arguments, in this order.
func TestRefillErrors(t *testing.T) {
	bad := api.Melt{Mass: 1, Content: unlike(at(0), at(0), at(-1))}
	good := span(0, api.MaxRate)
	for _, c := range []struct {
		m                         api.Melt
		feed, coefficient, target api.Range
		s                         api.Species
		want                      api.Errno
	}{
		{example(), good, span(0, api.MaxShare), good, 0, api.OK},
		{example(), good, at(0), good, 0, api.OK},
		{bad, good, at(0), good, 0, api.ErrArg},
		{api.Melt{Mass: -1}, good, at(0), good, 3, api.ErrArg},
		{api.Melt{Mass: 1000000001}, good, at(0), good, 0, api.ErrArg},
		{example(), good, at(0), good, 3, api.ErrNone},
		{example(), span(1, 0), at(-1), span(1, 0), -1, api.ErrNone},
		{example(), span(-1, 0), at(0), good, 0, api.ErrArg},
		{example(), span(1, 0), at(0), good, 0, api.ErrArg},
		{example(), span(0, 1000000001), at(0), good, 0, api.ErrArg},
		{example(), good, span(-1, 0), good, 0, api.ErrArg},
		{example(), good, span(1, 0), good, 0, api.ErrArg},
		{example(), good, span(0, 20001), good, 0, api.ErrArg},
		{example(), good, at(0), span(-1, 0), 0, api.ErrArg},
		{example(), good, at(0), span(1, 0), 0, api.ErrArg},
		{example(), good, at(0), span(0, 1000000001), 0, api.ErrArg},
		{api.Melt{Mass: api.MaxMelt}, at(0), span(0, 20001), at(1), 0, api.ErrArg},
	} {
		if x, e := melt.Refill(c.m, c.feed, c.coefficient, c.target, c.s); e != c.want || x != 0 {
			t.Error(c, x, e)
		}
	}
}

// refilled reports whether so much feed is right, by the chapter's inequalities.
func refilled(m api.Melt, feed, coefficient, target api.Range, s, x int) bool {
	sides := func(rate, content, feed, target int) int {
		part := big.NewInt(int64(content))
		part.Mul(part, big.NewInt(1000000))
		part.Add(part, new(big.Int).Mul(big.NewInt(int64(feed)), big.NewInt(int64(x))))
		part.Mul(part, big.NewInt(int64(rate)))
		whole := big.NewInt(int64(target))
		whole.Mul(whole, big.NewInt(10000))
		whole.Mul(whole, big.NewInt(int64(m.Mass+x)))
		return part.Cmp(whole)
	}
	d := m.Content[s]
	return m.Mass+x > 0 && sides(coefficient.High, d.High, feed.High, target.High) <= 0 &&
		sides(coefficient.Low, d.Low, feed.Low, target.Low) >= 0
}

// refillRun returns arguments of Refill for a melt with so much room, often with
// a target that some feed meets.
func refillRun(r *rand.Rand, room int) (m api.Melt, feed, coefficient, target api.Range) {
	m = api.Melt{Mass: api.MaxMelt - room, Content: anyBounds(r, api.MaxContent)}
	feed, coefficient = anyRange(r, api.MaxRate), anyRange(r, api.MaxShare)
	if r.Intn(2) == 0 {
		feed, coefficient = at(feed.Low), at(coefficient.Low)
	}
	target = span(r.Intn(api.MaxRate+1)/(1+r.Intn(1000)), api.MaxRate/(1+r.Intn(20)))
	if r.Intn(2) == 0 {
		target.Low = 0
	}
	target.High = max(target.Low, target.High)
	return m, feed, coefficient, target
}

// nearTarget returns the least target that is met with so much feed. It is not
// ok if there is none.
func nearTarget(m api.Melt, feed, coefficient api.Range, s, x int) (target api.Range, ok bool) {
	d := m.Content[s]
	target.Low = quotient(coefficient.Low, 1000000*d.Low+feed.Low*x, 1, 10000, m.Mass+x, false)
	target.High = quotient(coefficient.High, 1000000*d.High+feed.High*x, 1, 10000, m.Mass+x, true)
	return target, target.High <= api.MaxRate
}

// P3.7: the least mass, by going through all of them that a nearly full melt has room for.
func TestRefillAgainstAllMasses(t *testing.T) {
	r := dice()
	none, later := 0, 0
	for i := range 4000 {
		m, feed, coefficient, target := refillRun(r, 40)
		if i%2 == 0 {
			if near, ok := nearTarget(m, feed, coefficient, 2, r.Intn(41)); ok {
				target = near
			}
		}
		want, f := 0, api.ErrFull
		for n := range 41 {
			if refilled(m, feed, coefficient, target, 2, n) {
				want, f = n, api.OK
				break
			}
		}
		if x, e := melt.Refill(m, feed, coefficient, target, api.Carbon); x != want || e != f {
			t.Fatal(m, feed, coefficient, target, "is", x, e, "wants", want, f)
		}
		if f != api.OK {
			none++
		} else if want > 0 {
			later++
		}
	}
	if none < 100 || later < 100 {
		t.Error("too few of a kind", none, later)
	}
}

// P3.7: melts with much room. What is right has no gaps, so that the least mass
// is the one below which it is not right.
func TestRefillWithMuchRoom(t *testing.T) {
	r := dice()
	later := 0
	for range 4000 {
		m, feed, coefficient, _ := refillRun(r, 1+r.Intn(api.MaxMelt))
		feed.Low, feed.High = feed.Low/(1+r.Intn(1000000)), feed.High/(1+r.Intn(1000))
		feed.High = max(feed.Low, feed.High)
		some := 1 + r.Intn(api.MaxMelt-m.Mass)
		target, ok := nearTarget(m, feed, coefficient, 0, some)
		if !ok {
			continue
		}
		x, e := melt.Refill(m, feed, coefficient, target, api.Dopant)
		if e != api.OK || x > some || !refilled(m, feed, coefficient, target, 0, x) {
			t.Fatal(m, feed, coefficient, target, some, x, e)
		}
		if x > 0 && refilled(m, feed, coefficient, target, 0, x-1) {
			t.Fatal("not the least one", m, feed, coefficient, target, x)
		}
		if x > 0 {
			later++
		}
	}
	if later < 1000 {
		t.Error("too few", later)
	}
}
