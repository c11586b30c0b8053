package crop_test

import (
	"math"
	"slices"
	"testing"

	"boule/api"
	"boule/crop"
)

// wantCheck checks that Check, and all functions of its section, have an error.
func wantCheck(t *testing.T, l []api.Stretch, s api.Saw, want api.Errno) {
	t.Helper()
	if e := crop.Check(l, s); e != want {
		t.Error("Check", len(l), l, s, e, "want", want)
	}
	if want == api.OK {
		return
	}
	bad := list(9, 5) // This would be an error of the blocks.
	if n, e := crop.Value(l, s, bad[0]); n != 0 || e != want {
		t.Error("Value", len(l), l, s, n, e)
	}
	for _, blocks := range [][]api.Block{nil, bad} {
		if n, e := crop.Total(l, s, blocks); n != 0 || e != want {
			t.Error("Total", len(l), l, s, n, e)
		}
		if c, e := crop.Account(l, s, blocks); c != (api.Cropped{}) || e != want {
			t.Error("Account", len(l), l, s, c, e)
		}
	}
	if b, n, e := crop.Best(l, s); len(b) != 0 || n != 0 || e != want {
		t.Error("Best", len(l), l, s, b, n, e)
	}
	if b, e := crop.Bounds(l, s); len(b) != 0 || e != want {
		t.Error("Bounds", len(l), l, s, b, e)
	}
	for _, b := range [][]int{nil, {0}, make([]int, 27)} {
		if ok, e := crop.Proves(l, s, b); ok || e != want {
			t.Error("Proves", len(l), l, s, ok, e)
		}
	}
}

// P7.3: what is valid, up to all limits.
func TestCheck(t *testing.T) {
	for _, l := range [][]api.Stretch{
		nil, {}, example(), made([2]int{1, -1}), made([2]int{1, 0}), made([2]int{3000, 1000}), made([2]int{2999, -1}, [2]int{1, 1000}),
		slices.Repeat(made([2]int{50, 7}), 60), slices.Repeat(made([2]int{1, 7}), 60),
	} {
		for _, s := range []api.Saw{saw(1, 1, 0), saw(4, 8, 1), saw(600, 600, 20), saw(1, 600, 20)} {
			wantCheck(t, l, s, api.OK)
		}
	}
}

// P7.3: errors of stretches and of saws.
func TestCheckErrors(t *testing.T) {
	for _, s := range []api.Saw{
		{}, saw(0, 1, 0), saw(-1, 1, 0), saw(2, 1, 0), saw(1, 0, 0), saw(1, 601, 0), saw(601, 601, 0), saw(1, 1, -1), saw(1, 1, 21),
		saw(math.MinInt, 5, 1), saw(math.MinInt, math.MinInt, 1), saw(math.MaxInt, math.MaxInt, 1), saw(1, math.MaxInt, 1), saw(math.MaxInt, 5, 1), saw(1, 5, math.MaxInt), saw(1, 5, math.MinInt),
	} {
		wantCheck(t, nil, s, api.ErrArg)
		wantCheck(t, example(), s, api.ErrArg)
		wantCheck(t, make([]api.Stretch, 61), s, api.ErrLong)
	}
	for _, x := range [][2]int{{0, 5}, {-1, 5}, {3001, 5}, {2975, 5}, {5, -2}, {5, 1001}, {math.MinInt, 5}, {math.MaxInt, 5}, {5, math.MinInt}, {5, math.MaxInt}} {
		for i := range 4 {
			wantCheck(t, slices.Insert(example(), i, api.Stretch{Length: x[0], Worth: x[1]}), saw(4, 8, 1), api.ErrArg)
		}
	}
	wantCheck(t, made([2]int{math.MaxInt, 1}, [2]int{math.MaxInt, 1}, [2]int{2, 1}), saw(4, 8, 1), api.ErrArg) // Their sum would be 0.
	wantCheck(t, slices.Repeat(made([2]int{50, 7}), 61), saw(4, 8, 1), api.ErrLong)
	wantCheck(t, append(slices.Repeat(made([2]int{50, 7}), 59), api.Stretch{Length: 51}), saw(4, 8, 1), api.ErrArg)
	wantCheck(t, slices.Repeat(made([2]int{1, 7}), 61), saw(4, 8, 1), api.ErrLong)
}

// wantValue checks the results of Value, and of Total of this block alone.
func wantValue(t *testing.T, l []api.Stretch, s api.Saw, b api.Block, value int, want api.Errno) {
	t.Helper()
	if n, e := crop.Value(l, s, b); n != value || e != want {
		t.Error("Value", l, s, b, n, e, "want", value, want)
	}
	if n, e := crop.Total(l, s, []api.Block{b}); n != value || e != want {
		t.Error("Total", l, s, b, n, e, "want", value, want)
	}
}

// P7.4: the least worth of the stretches of which a block has a part.
func TestValue(t *testing.T) {
	l := made([2]int{3, 7}, [2]int{3, 2}, [2]int{1, 0}, [2]int{2, 9}, [2]int{1, -1}, [2]int{4, 1000})
	for _, c := range []struct {
		from, to, value int
		want            api.Errno
	}{
		{0, 3, 21, api.OK}, {1, 3, 14, api.OK}, {2, 3, 7, api.OK}, {0, 4, 8, api.OK}, {1, 5, 8, api.OK}, {3, 6, 6, api.OK}, {2, 4, 4, api.OK},
		{0, 6, 12, api.OK}, {1, 7, 0, api.OK}, {6, 7, 0, api.OK}, {6, 9, 0, api.OK}, {7, 9, 18, api.OK}, {8, 9, 9, api.OK}, {10, 14, 4000, api.OK}, {13, 14, 1000, api.OK},
		{0, 7, 0, api.ErrCrop}, {8, 10, 0, api.ErrCrop}, {9, 10, 0, api.ErrCrop}, {9, 12, 0, api.ErrCrop}, {8, 11, 0, api.ErrCrop},
		{10, 15, 0, api.ErrCrop}, {14, 15, 0, api.ErrCrop}, {-1, 1, 0, api.ErrCrop}, {-1, 0, 0, api.ErrCrop}, {3, 3, 0, api.ErrCrop}, {4, 3, 0, api.ErrCrop}, {14, 14, 0, api.ErrCrop},
		{math.MaxInt, math.MinInt, 0, api.ErrCrop}, {math.MaxInt, math.MinInt + 1, 0, api.ErrCrop}, {math.MinInt, math.MaxInt, 0, api.ErrCrop}, {0, math.MaxInt, 0, api.ErrCrop}, {math.MinInt, 3, 0, api.ErrCrop},
	} {
		wantValue(t, l, saw(1, 6, 3), api.Block{From: c.from, To: c.to}, c.value, c.want)
	}
	wantValue(t, nil, saw(1, 6, 3), api.Block{}, 0, api.ErrCrop)
	wantValue(t, nil, saw(1, 6, 3), api.Block{To: 1}, 0, api.ErrCrop)
	wantValue(t, made([2]int{3000, 1000}), saw(600, 600, 0), api.Block{From: 2400, To: 3000}, 600000, api.OK)
}

// P7.4: Least and Most are allowed.
func TestLengths(t *testing.T) {
	for n := range 12 {
		value, want := 5*n, api.OK
		if n < 4 || n > 8 {
			value, want = 0, api.ErrCrop
		}
		wantValue(t, made([2]int{20, 5}), saw(4, 8, 1), api.Block{From: 2, To: 2 + n}, value, want)
	}
}

// P7.4.
func TestTotal(t *testing.T) {
	for _, c := range []struct {
		l     []api.Block
		total int
		want  api.Errno
	}{
		{nil, 0, api.OK}, {[]api.Block{}, 0, api.OK},
		{list(0, 4, 5, 10), 45, api.OK},
		{list(0, 4, 6, 10), 40, api.OK},
		{list(14, 18, 19, 23), 24, api.OK},
		{list(14, 18, 22, 26), 24, api.OK},
		{list(0, 4, 5, 10, 14, 18, 19, 26), 78, api.OK},
		{list(0, 4, 4, 8), 0, api.ErrCrop},
		{list(0, 5, 4, 8), 0, api.ErrCrop},
		{list(0, 4, 0, 4), 0, api.ErrCrop},
		{list(5, 9, 0, 4), 0, api.ErrCrop},
		{list(0, 4, 14, 18, 5, 10), 0, api.ErrCrop},
		{list(0, 4, 5, 10, 14, 18, 18, 26), 0, api.ErrCrop},
		{list(0, 3, 5, 10), 0, api.ErrCrop},
		{list(0, 4, 5, 8), 0, api.ErrCrop},
		{list(0, 4, 5, 11), 0, api.ErrCrop},
		{list(0, 4, 20, 27), 0, api.ErrCrop},
	} {
		if n, e := crop.Total(example(), saw(4, 8, 1), c.l); n != c.total || e != c.want {
			t.Error("Total", c, n, e)
		}
	}
	if n, e := crop.Total(made([2]int{8, 5}), saw(4, 4, 0), list(0, 4, 4, 8)); n != 40 || e != api.OK {
		t.Error("a saw that takes nothing", n, e)
	}
	thick := saw(2, 9, 20)
	if n, e := crop.Total(made([2]int{30, 5}), thick, list(0, 5, 25, 30)); n != 50 || e != api.OK {
		t.Error("a saw that takes 20", n, e)
	}
	if n, e := crop.Total(made([2]int{30, 5}), thick, list(0, 6, 25, 30)); n != 0 || e != api.ErrCrop {
		t.Error("only 19 between two blocks", n, e)
	}
}

// P7.4: a block or a list is worth what the document says, or not allowed.
func TestAllBlocks(t *testing.T) {
	r := dice()
	fit := 0
	for range 3000 {
		l, s := anyBoule(r, 12), anySaw(r)
		b := api.Block{From: r.Intn(15) - 1, To: r.Intn(15) - 1}
		value, ok := plainValue(l, s, b)
		want := api.OK
		if !ok {
			value, want = 0, api.ErrCrop
		}
		wantValue(t, l, s, b, value, want)

		var blocks []api.Block
		for from := r.Intn(3); from < 12; {
			b := api.Block{From: from, To: from + s.Least + r.Intn(s.Most-s.Least+1)}
			blocks = append(blocks, b)
			from = b.To + s.Kerf + r.Intn(4) - min(s.Kerf, r.Intn(2))
		}
		total, ok := plainTotal(l, s, blocks)
		want = api.OK
		if !ok {
			total, want = 0, api.ErrCrop
		} else if len(blocks) > 1 {
			fit++
		}
		if n, e := crop.Total(l, s, blocks); n != total || e != want {
			t.Fatal("Total", l, s, blocks, n, e, "want", total, want)
		}
		c, e := crop.Account(l, s, blocks)
		if e != want || ok && c != plainAccount(l, s, blocks) || !ok && c != (api.Cropped{}) {
			t.Fatal("Account", l, s, blocks, c, e)
		}
	}
	if fit < 100 {
		t.Error("few lists are croppings", fit)
	}
}

// P7.7, and example 3.
func TestAccount(t *testing.T) {
	one := made([2]int{30, 1})
	for _, c := range []struct {
		name   string
		l      []api.Stretch
		s      api.Saw
		blocks []api.Block
		want   api.Cropped
	}{
		{"example 3", example(), saw(4, 8, 1), list(5, 9), api.Cropped{Blocks: 4, Kerf: 2, Scrap: 20}},
		{"the best one", example(), saw(4, 8, 1), list(0, 4, 5, 10, 14, 18, 19, 26), api.Cropped{Blocks: 20, Kerf: 4, Scrap: 2}},
		{"no blocks", example(), saw(4, 8, 1), nil, api.Cropped{Scrap: 26}},
		{"no boule", nil, saw(4, 8, 1), nil, api.Cropped{}},
		{"all of it", one, saw(1, 30, 5), list(0, 30), api.Cropped{Blocks: 30}},
		{"less than a cut at the top", one, saw(1, 30, 5), list(3, 30), api.Cropped{Blocks: 27, Kerf: 3}},
		{"a cut at the top", one, saw(1, 30, 5), list(5, 30), api.Cropped{Blocks: 25, Kerf: 5}},
		{"more than a cut at the top", one, saw(1, 30, 5), list(6, 30), api.Cropped{Blocks: 24, Kerf: 5, Scrap: 1}},
		{"less than a cut at the bottom", one, saw(1, 30, 5), list(0, 28), api.Cropped{Blocks: 28, Kerf: 2}},
		{"more than a cut at the bottom", one, saw(1, 30, 5), list(0, 23), api.Cropped{Blocks: 23, Kerf: 5, Scrap: 2}},
		{"two cuts that are one", one, saw(1, 30, 5), list(0, 10, 15, 30), api.Cropped{Blocks: 25, Kerf: 5}},
		{"two cuts with a part in common", one, saw(1, 30, 5), list(0, 10, 17, 30), api.Cropped{Blocks: 23, Kerf: 7}},
		{"two cuts that touch", one, saw(1, 30, 5), list(0, 10, 20, 30), api.Cropped{Blocks: 20, Kerf: 10}},
		{"two cuts with something between them", one, saw(1, 30, 5), list(0, 10, 21, 30), api.Cropped{Blocks: 19, Kerf: 10, Scrap: 1}},
		{"cuts without kerf", one, saw(1, 30, 0), list(2, 10, 10, 20, 25, 30), api.Cropped{Blocks: 23, Scrap: 7}},
		{"cuts through what can not be used", made([2]int{2, -1}, [2]int{5, 1}, [2]int{3, -1}), saw(5, 5, 20), list(2, 7), api.Cropped{Blocks: 5, Kerf: 5}},
	} {
		if x, e := crop.Account(c.l, c.s, c.blocks); x != c.want || e != api.OK {
			t.Error(c.name, x, e)
		}
	}
	for _, bad := range [][]api.Block{list(0, 3), list(0, 4, 4, 8), list(5, 9, 0, 4), list(7, 11), list(-1, 4), list(20, 27), list(math.MaxInt, math.MinInt)} {
		if x, e := crop.Account(example(), saw(4, 8, 1), bad); x != (api.Cropped{}) || e != api.ErrCrop {
			t.Error("no cropping", bad, x, e)
		}
	}
}

// P7.12: the lengths of blocks, kerf and scrap add up to that of the boule.
func TestNothingIsLostInCropping(t *testing.T) {
	r := dice()
	for range 300 {
		l, s := anyBoule(r, 9), anySaw(r)
		croppings(l, s, func(blocks []api.Block) {
			c, e := crop.Account(l, s, blocks)
			if e != api.OK || c != plainAccount(l, s, blocks) || c.Blocks+c.Kerf+c.Scrap != lengthOf(l) {
				t.Fatal(l, s, blocks, c, e)
			}
		})
	}
}
