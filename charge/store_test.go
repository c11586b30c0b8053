package charge_test

import (
	"maps"
	"math/rand"
	"slices"
	"testing"

	"boule/api"
	"boule/charge"
)

// piece is a valid lot of n pieces.
func piece(n int) api.Lot {
	return api.Lot{Count: n, Mass: 100, Content: api.Bounds{span(2, 3), span(0, 7), span(5, 5)}, Cost: 4}
}

// filled returns a store with lots of so many pieces.
func filled(t *testing.T, counts ...int) *charge.Store {
	t.Helper()
	s := charge.NewStore()
	for i, n := range counts {
		if number, e := s.Receive(piece(n)); number != i+1 || e != api.OK {
			t.Fatal("Receive", number, e)
		}
	}
	return s
}

// family returns the store of example 3, with 5 pieces in each lot.
func family(t *testing.T) *charge.Store {
	t.Helper()
	s := filled(t, 5, 5)
	wantNumber(t, s, piece(5), []int{1, 2}, 3, api.OK)
	wantNumber(t, s, piece(5), []int{3}, 4, api.OK)
	return s
}

// wantNumber checks the results of Return.
func wantNumber(t *testing.T, s *charge.Store, l api.Lot, parents []int, want int, wantE api.Errno) {
	t.Helper()
	if n, e := s.Return(l, parents); n != want || e != wantE {
		t.Errorf("Return of %v with parents %v: got %d, error %d; want %d, error %d", l, parents, n, e, want, wantE)
	}
}

// wantList checks the results of Trace or Made.
func wantList(t *testing.T, call func(int) ([]int, api.Errno), number int, want ...int) {
	t.Helper()
	if l, e := call(number); !slices.Equal(l, want) || e != api.OK {
		t.Errorf("lot %d: got %v, error %d; want %v", number, l, e, want)
	}
}

// wantLeft checks how many pieces are left of each lot.
func wantLeft(t *testing.T, s *charge.Store, counts ...int) {
	t.Helper()
	for i, n := range counts {
		if l, e := s.Lot(i + 1); l != piece(n) || e != api.OK {
			t.Error("lot", i+1, l, e)
		}
	}
	if l, e := s.Lot(len(counts) + 1); l != (api.Lot{}) || e != api.ErrNone {
		t.Error("one more lot", l, e)
	}
}

// P2.6: Receive.
func TestReceive(t *testing.T) {
	s := filled(t, 5, 1, 1000)
	wantLeft(t, s, 5, 1, 1000)
	for _, change := range []func(l *api.Lot){
		func(l *api.Lot) { l.Count = 0 }, func(l *api.Lot) { l.Count = -1 }, func(l *api.Lot) { l.Count = 1001 },
		func(l *api.Lot) { l.Mass = 0 }, func(l *api.Lot) { l.Mass = 1000001 },
		func(l *api.Lot) { l.Cost = -1 }, func(l *api.Lot) { l.Cost = 1000001 },
		func(l *api.Lot) { l.Content[api.Dopant].Low = -1 }, func(l *api.Lot) { l.Content[api.Oxygen] = span(3, 2) }, func(l *api.Lot) { l.Content[api.Carbon].High = 100000001 },
	} {
		l := piece(5)
		change(&l)
		if n, e := s.Receive(l); n != 0 || e != api.ErrArg {
			t.Error("Receive", l, n, e)
		}
		wantNumber(t, s, l, []int{1}, 0, api.ErrArg)
		wantNumber(t, s, l, make([]int, 11), 0, api.ErrArg)
	}
	wantLeft(t, s, 5, 1, 1000)

	// What is just valid.
	full := span(api.MaxUnits, api.MaxUnits)
	for i, l := range []api.Lot{{Count: 1, Mass: 1}, {Count: 1000, Mass: 1000000, Content: api.Bounds{full, full, full}, Cost: 1000000}} {
		if n, e := s.Receive(l); n != 4+i || e != api.OK {
			t.Error(l, n, e)
		}
		if x, e := s.Lot(4 + i); x != l || e != api.OK {
			t.Error(l, x, e)
		}
	}
}

// P2.6: Return and its errors, and which one comes first.
func TestReturn(t *testing.T) {
	s := filled(t, slices.Repeat([]int{5}, 10)...)
	ten := []int{10, 9, 8, 7, 6, 5, 4, 3, 2, 1}
	for _, c := range []struct {
		parents []int
		want    api.Errno
	}{
		{[]int{11}, api.ErrNone}, {[]int{0}, api.ErrNone}, {[]int{-1}, api.ErrNone}, {[]int{1, 2, 12}, api.ErrNone},
		{[]int{1, 1}, api.ErrTwice}, {[]int{3, 1, 2, 3}, api.ErrTwice},
		{[]int{1, 1, 11}, api.ErrTwice}, {[]int{11, 1, 1}, api.ErrNone}, {[]int{11, 11}, api.ErrNone}, {[]int{1, 2, 2, 1}, api.ErrTwice},
		{append(slices.Clone(ten), 11), api.ErrLong}, {make([]int, 11), api.ErrLong}, {append(slices.Clone(ten), 1), api.ErrLong}, {make([]int, 10), api.ErrNone},
	} {
		wantNumber(t, s, piece(3), c.parents, 0, c.want)
	}
	wantNumber(t, s, piece(1), ten, 11, api.OK)
	wantNumber(t, s, piece(1), nil, 12, api.OK)
	wantNumber(t, s, piece(1), []int{}, 13, api.OK)
	wantNumber(t, s, piece(1), []int{11}, 14, api.OK)
	wantList(t, s.Trace, 11, 1, 2, 3, 4, 5, 6, 7, 8, 9, 10)
	wantList(t, s.Trace, 12)
	wantList(t, s.Trace, 14, 1, 2, 3, 4, 5, 6, 7, 8, 9, 10, 11)
}

// P2.6: MaxLots is just met, and the error comes last.
func TestFullStore(t *testing.T) {
	s := filled(t, slices.Repeat([]int{1}, 199)...)
	wantNumber(t, s, piece(1), []int{199}, 200, api.OK)
	for range 2 {
		if n, e := s.Receive(piece(1)); n != 0 || e != api.ErrFull {
			t.Error("Receive", n, e)
		}
		wantNumber(t, s, piece(1), []int{1, 200}, 0, api.ErrFull)
		if e := s.Draw([]api.Pick{{Lot: 1, N: 1}, {Lot: 2, N: 1}}); e != api.OK && e != api.ErrStock {
			t.Error("Draw", e)
		}
	}
	if _, e := s.Receive(piece(0)); e != api.ErrArg {
		t.Error("no pieces", e)
	}
	wantNumber(t, s, piece(1), make([]int, 11), 0, api.ErrLong)
	wantNumber(t, s, piece(1), []int{201}, 0, api.ErrNone)
	wantNumber(t, s, piece(1), []int{3, 3}, 0, api.ErrTwice)
	if _, e := s.Lot(201); e != api.ErrNone {
		t.Error("a lot more", e)
	}
}

// P2.7: all or nothing, and the errors pick by pick.
func TestDraw(t *testing.T) {
	s := filled(t, 5, 5, 2)
	for _, c := range []struct {
		picks []api.Pick
		want  api.Errno
	}{
		{[]api.Pick{{Lot: 4, N: 1}}, api.ErrNone}, {[]api.Pick{{Lot: 0, N: 1}}, api.ErrNone}, {[]api.Pick{{Lot: -1, N: 0}}, api.ErrNone},
		{[]api.Pick{{Lot: 1, N: 1}, {Lot: 4, N: 0}}, api.ErrNone},
		{[]api.Pick{{Lot: 1, N: 1}, {Lot: 1, N: 1}}, api.ErrTwice}, {[]api.Pick{{Lot: 1, N: 1}, {Lot: 2, N: 5}, {Lot: 1, N: 0}}, api.ErrTwice}, {[]api.Pick{{Lot: 1, N: 1}, {Lot: 1, N: 9}}, api.ErrTwice},
		{[]api.Pick{{Lot: 1, N: 0}}, api.ErrRange}, {[]api.Pick{{Lot: 1, N: -1}}, api.ErrRange}, {[]api.Pick{{Lot: 1, N: 0}, {Lot: 1, N: 1}}, api.ErrRange},
		{[]api.Pick{{Lot: 3, N: 3}}, api.ErrStock}, {[]api.Pick{{Lot: 1, N: 6}}, api.ErrStock}, {[]api.Pick{{Lot: 1, N: 1}, {Lot: 2, N: 1}, {Lot: 3, N: 3}}, api.ErrStock},
		{[]api.Pick{{Lot: 3, N: 3}, {Lot: 4, N: 1}}, api.ErrStock}, {[]api.Pick{{Lot: 4, N: 1}, {Lot: 3, N: 3}}, api.ErrNone}, {[]api.Pick{{Lot: 3, N: 3}, {Lot: 3, N: 0}}, api.ErrStock}, {[]api.Pick{{Lot: 2, N: 0}, {Lot: 3, N: 3}}, api.ErrRange},
		{nil, api.OK}, {[]api.Pick{}, api.OK},
	} {
		if e := s.Draw(c.picks); e != c.want {
			t.Error(c, e)
		}
		wantLeft(t, s, 5, 5, 2)
	}
	if left, drawn := s.Sums(); left.Mass != 1200 || drawn != (api.Pile{}) {
		t.Error("nothing was drawn", left, drawn)
	}
	for _, c := range []struct {
		picks []api.Pick
		want  api.Errno
		left  []int
	}{
		{[]api.Pick{{Lot: 3, N: 1}, {Lot: 1, N: 4}}, api.OK, []int{1, 5, 1}},
		{[]api.Pick{{Lot: 1, N: 2}}, api.ErrStock, []int{1, 5, 1}},
		{[]api.Pick{{Lot: 2, N: 5}, {Lot: 1, N: 1}, {Lot: 3, N: 1}}, api.OK, []int{0, 0, 0}},
		{[]api.Pick{{Lot: 2, N: 1}}, api.ErrStock, []int{0, 0, 0}},
		{[]api.Pick{{Lot: 2, N: 0}}, api.ErrRange, []int{0, 0, 0}},
	} {
		if e := s.Draw(c.picks); e != c.want {
			t.Error(c, e)
		}
		wantLeft(t, s, c.left...)
	}
	// A lot without pieces is still there: it can be a parent.
	wantNumber(t, s, piece(3), []int{2}, 4, api.OK)
	wantList(t, s.Made, 2, 4)
}

// P2.8, T8, and example 3.
func TestTraceAndMade(t *testing.T) {
	s := family(t)
	wantNumber(t, s, piece(5), nil, 5, api.OK)
	wantNumber(t, s, piece(5), []int{5, 1}, 6, api.OK)
	wantNumber(t, s, piece(5), []int{6, 4, 3}, 7, api.OK)
	for number, trace := range [][]int{1: nil, 2: nil, 3: {1, 2}, 4: {1, 2, 3}, 5: nil, 6: {1, 5}, 7: {1, 2, 3, 4, 5, 6}} {
		if number > 0 {
			wantList(t, s.Trace, number, trace...)
		}
	}
	for number, made := range [][]int{1: {3, 4, 6, 7}, 2: {3, 4, 7}, 3: {4, 7}, 4: {7}, 5: {6, 7}, 6: {7}, 7: nil} {
		if number > 0 {
			wantList(t, s.Made, number, made...)
		}
	}
}

// P2.8: numbers without a lot.
func TestNoSuchLot(t *testing.T) {
	for _, s := range []*charge.Store{charge.NewStore(), family(t)} {
		for _, number := range append(slices.Clone(hostile), 5, 200, 201) {
			if number >= 1 && number <= 4 {
				continue
			}
			if l, e := s.Lot(number); l != (api.Lot{}) || e != api.ErrNone {
				t.Error("Lot", number, l, e)
			}
			if l, e := s.Trace(number); len(l) != 0 || e != api.ErrNone {
				t.Error("Trace", number, l, e)
			}
			if l, e := s.Made(number); len(l) != 0 || e != api.ErrNone {
				t.Error("Made", number, l, e)
			}
		}
	}
}

// P2.9.
func TestSums(t *testing.T) {
	s := charge.NewStore()
	want := func(left, drawn api.Pile) {
		t.Helper()
		if l, d := s.Sums(); l != left || d != drawn {
			t.Error("got", l, d, "want", left, drawn)
		}
	}
	want(api.Pile{}, api.Pile{})
	s.Receive(api.Lot{Count: 5, Mass: 100, Content: api.Bounds{span(2, 3), span(0, 7), span(5, 5)}})
	s.Receive(api.Lot{Count: 3, Mass: 1000, Content: api.Bounds{span(0, 0), span(1, 1)}})
	want(api.Pile{Mass: 3500, Content: api.Bounds{span(10, 15), span(3, 38), span(25, 25)}}, api.Pile{})
	s.Draw([]api.Pick{{Lot: 2, N: 2}, {Lot: 1, N: 1}})
	want(api.Pile{Mass: 1400, Content: api.Bounds{span(8, 12), span(1, 29), span(20, 20)}}, api.Pile{Mass: 2100, Content: api.Bounds{span(2, 3), span(2, 9), span(5, 5)}})
	s.Return(api.Lot{Count: 1, Mass: 50, Content: api.Bounds{span(1, 4)}}, []int{1})
	s.Draw([]api.Pick{{Lot: 3, N: 1}, {Lot: 2, N: 1}})
	want(api.Pile{Mass: 400, Content: api.Bounds{span(8, 12), span(0, 28), span(20, 20)}}, api.Pile{Mass: 3150, Content: api.Bounds{span(3, 7), span(3, 10), span(5, 5)}})

	full := span(api.MaxUnits, api.MaxUnits)
	s = charge.NewStore()
	for range 200 {
		s.Receive(api.Lot{Count: 1000, Mass: 1000000, Content: api.Bounds{full, full, full}})
	}
	all := span(20000000000000, 20000000000000)
	want(api.Pile{Mass: 200000000000, Content: api.Bounds{all, all, all}}, api.Pile{})
}

// R3: a nil store.
func TestNilStore(t *testing.T) {
	var s *charge.Store
	if n, e := s.Receive(piece(5)); n != 0 || e != api.ErrNil {
		t.Error("Receive", n, e)
	}
	if n, e := s.Receive(api.Lot{}); n != 0 || e != api.ErrNil {
		t.Error("Receive", n, e)
	}
	wantNumber(t, s, piece(5), nil, 0, api.ErrNil)
	wantNumber(t, s, api.Lot{}, make([]int, 11), 0, api.ErrNil)
	for _, l := range [][]api.Pick{nil, {{Lot: 1, N: 1}}, {{}}} {
		if e := s.Draw(l); e != api.ErrNil {
			t.Error("Draw", e)
		}
	}
	for _, number := range hostile {
		if l, e := s.Lot(number); l != (api.Lot{}) || e != api.ErrNil {
			t.Error("Lot", l, e)
		}
		if l, e := s.Trace(number); len(l) != 0 || e != api.ErrNil {
			t.Error("Trace", l, e)
		}
		if l, e := s.Made(number); len(l) != 0 || e != api.ErrNil {
			t.Error("Made", l, e)
		}
	}
	if left, drawn := s.Sums(); left != (api.Pile{}) || drawn != (api.Pile{}) {
		t.Error("Sums", left, drawn)
	}
}

// Each store keeps its own lots.
func TestTwoStores(t *testing.T) {
	a, b := filled(t, 5, 5), filled(t, 5)
	if e := a.Draw([]api.Pick{{Lot: 1, N: 3}}); e != api.OK {
		t.Error(e)
	}
	wantLeft(t, a, 2, 5)
	wantLeft(t, b, 5)
}

// ledger is a store that is kept plainly.
type ledger struct {
	lots, added []api.Lot
	parents     [][]int
	drawn       []api.Pick
}

func (g *ledger) has(number int) bool { return number >= 1 && number <= len(g.lots) }

func (g *ledger) add(l api.Lot, parents []int) api.Errno {
	if l.Count < 1 || l.Count > 1000 {
		return api.ErrArg
	}
	if len(parents) > 10 {
		return api.ErrLong
	}
	seen := map[int]bool{}
	for _, p := range parents {
		if !g.has(p) {
			return api.ErrNone
		}
		if seen[p] {
			return api.ErrTwice
		}
		seen[p] = true
	}
	if len(g.lots) == 200 {
		return api.ErrFull
	}
	g.lots, g.added, g.parents = append(g.lots, l), append(g.added, l), append(g.parents, parents)
	return api.OK
}

func (g *ledger) draw(l []api.Pick) api.Errno {
	left := slices.Clone(g.lots)
	seen := map[int]bool{}
	for _, x := range l {
		switch {
		case !g.has(x.Lot):
			return api.ErrNone
		case seen[x.Lot]:
			return api.ErrTwice
		case x.N < 1:
			return api.ErrRange
		case x.N > left[x.Lot-1].Count:
			return api.ErrStock
		}
		seen[x.Lot] = true
		left[x.Lot-1].Count -= x.N
	}
	g.lots, g.drawn = left, append(g.drawn, l...)
	return api.OK
}

// trace goes from parents to their parents.
func (g *ledger) trace(number int) []int {
	found := map[int]bool{}
	var look func(n int)
	look = func(n int) {
		for _, p := range g.parents[n-1] {
			found[p] = true
			look(p)
		}
	}
	look(number)
	return slices.Sorted(maps.Keys(found))
}

// weighed is the pile of some pieces of lots, by their numbers.
func (g *ledger) weighed(l []api.Pick) api.Pile {
	p := api.Recipe{}
	var counts []int
	for _, x := range l {
		p.Lots, counts = append(p.Lots, g.added[x.Lot-1]), append(counts, x.N)
	}
	return plainPile(p, counts)
}

// agree compares all that a store says with what the ledger says.
func (g *ledger) agree(t *testing.T, s *charge.Store) {
	t.Helper()
	made := map[int][]int{}
	var rest []api.Pick
	for i, l := range g.lots {
		number := i + 1
		rest = append(rest, api.Pick{Lot: number, N: l.Count})
		if x, e := s.Lot(number); x != l || e != api.OK {
			t.Fatal("Lot", number, x, e, l)
		}
		trace := g.trace(number)
		wantList(t, s.Trace, number, trace...)
		for _, n := range trace {
			if n >= number {
				t.Fatal("Trace", number, trace)
			}
			made[n] = append(made[n], number)
		}
	}
	for i := range g.lots {
		wantList(t, s.Made, i+1, made[i+1]...)
	}
	if left, drawn := s.Sums(); left != g.weighed(rest) || drawn != g.weighed(g.drawn) {
		t.Fatal("Sums", left, drawn, g)
	}
	if _, e := s.Lot(len(g.lots) + 1); e != api.ErrNone {
		t.Fatal("a lot more", e)
	}
}

// balanced checks that what is left and what was drawn is what was added.
func balanced(t *testing.T, s *charge.Store, g *ledger) {
	t.Helper()
	var added []api.Pick
	for i, l := range g.added {
		added = append(added, api.Pick{Lot: i + 1, N: l.Count})
	}
	left, drawn := s.Sums()
	sum := api.Pile{Mass: left.Mass + drawn.Mass}
	for i := range sum.Content {
		sum.Content[i] = span(left.Content[i].Low+drawn.Content[i].Low, left.Content[i].High+drawn.Content[i].High)
	}
	if sum != g.weighed(added) {
		t.Fatal("conservation", left, drawn, g)
	}
}

func anyNumbers(r *rand.Rand, most, lots int) []int {
	l := make([]int, r.Intn(most+1))
	for i := range l {
		l[i] = 1 + r.Intn(lots+1) - r.Intn(20)/19
	}
	return l
}

// P2.6 to P2.9, P2.13, R2, T1: any calls, most of them with valid arguments.
func TestAnyCalls(t *testing.T) {
	r := dice()
	seen := map[api.Errno]int{}
	for range 100 {
		s, g := charge.NewStore(), &ledger{}
		for range 60 {
			if r.Intn(2) == 0 {
				l := api.Lot{Count: r.Intn(10), Mass: 1 + r.Intn(500), Cost: r.Intn(5)}
				for k := range l.Content {
					l.Content[k] = anyRange(r, 9, 1)
				}
				parents := anyNumbers(r, 3, len(g.lots))
				want, number := g.add(l, parents), 0
				if want == api.OK {
					number = len(g.lots)
				}
				seen[want]++
				wantNumber(t, s, l, parents, number, want)
			} else {
				var picks []api.Pick
				for _, n := range anyNumbers(r, 3, len(g.lots)) {
					picks = append(picks, api.Pick{Lot: n, N: r.Intn(5)})
				}
				want := g.draw(picks)
				seen[want]++
				if e := s.Draw(picks); e != want {
					t.Fatal("Draw", picks, e, want)
				}
			}
			g.agree(t, s)
			balanced(t, s, g)
		}
	}
	for _, e := range []api.Errno{api.OK, api.ErrArg, api.ErrNone, api.ErrTwice, api.ErrRange, api.ErrStock} {
		if seen[e] < 50 {
			t.Error("too few calls with the error", e, seen[e])
		}
	}
}
