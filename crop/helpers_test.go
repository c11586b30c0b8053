package crop_test

import (
	"math"
	"math/bits"
	"math/rand"
	"slices"
	"testing"

	"boule/api"
	"boule/crop"
)

// hostile are integers at and around all limits.
var hostile = []int{
	math.MinInt, math.MinInt + 1, -144001, -144000, -36001, -36000, -2, -1, 0, 1, 2, 4, 8, 20, 21, 26, 27, 600, 601,
	1000, 1001, 3000, 3001, 36000, 36001, 144000, 144001, 500000, 500001, api.MaxNumber, api.MaxNumber + 1, math.MaxInt,
}

func span(low, high int) api.Range { return api.Range{Low: low, High: high} }

func at(n int) api.Range { return span(n, n) }

// made returns stretches by their lengths and worths.
func made(l ...[2]int) []api.Stretch {
	var stretches []api.Stretch
	for _, x := range l {
		stretches = append(stretches, api.Stretch{Length: x[0], Worth: x[1]})
	}
	return stretches
}

// example is the boule of the document's examples.
func example() []api.Stretch { return made([2]int{10, 5}, [2]int{4, -1}, [2]int{12, 3}) }

func saw(least, most, kerf int) api.Saw { return api.Saw{Least: least, Most: most, Kerf: kerf} }

// list returns blocks by their ends.
func list(ends ...int) []api.Block {
	var l []api.Block
	for i := 0; i < len(ends); i += 2 {
		l = append(l, api.Block{From: ends[i], To: ends[i+1]})
	}
	return l
}

// dice returns the same numbers in every run.
func dice() *rand.Rand { return rand.New(rand.NewSource(1)) }

// anyBoule returns a boule of at most so many mm, with worths that are often equal.
func anyBoule(r *rand.Rand, most int) []api.Stretch {
	var l []api.Stretch
	for left := r.Intn(most + 1); left > 0; {
		x := api.Stretch{Length: 1 + r.Intn(left), Worth: r.Intn(5) - 1}
		l = append(l, x)
		left -= x.Length
	}
	return l
}

func anySaw(r *rand.Rand) api.Saw {
	least := 1 + r.Intn(4)
	return saw(least, least+r.Intn(4), r.Intn(4))
}

func lengthOf(l []api.Stretch) int {
	length := 0
	for _, x := range l {
		length += x.Length
	}
	return length
}

// plainValue follows the document: the least worth of the stretches of which a
// block has a part. It is not ok if the block is not allowed.
func plainValue(l []api.Stretch, s api.Saw, b api.Block) (value int, ok bool) {
	if b.From < 0 || b.To > lengthOf(l) || b.To < b.From || b.To-b.From < s.Least || b.To-b.From > s.Most {
		return 0, false
	}
	least, top := math.MaxInt, 0
	for _, x := range l {
		bottom := top + x.Length
		if max(top, b.From) < min(bottom, b.To) {
			least = min(least, x.Worth)
		}
		top = bottom
	}
	return least * (b.To - b.From), least >= 0
}

// allowed returns all allowed blocks, in ascending order.
func allowed(l []api.Stretch, s api.Saw) []api.Block {
	var blocks []api.Block
	for from := range lengthOf(l) + 1 {
		for to := range lengthOf(l) + 1 {
			b := api.Block{From: from, To: to}
			if _, ok := plainValue(l, s, b); ok {
				blocks = append(blocks, b)
			}
		}
	}
	return blocks
}

// plainTotal follows the document. It is not ok if the list is no cropping.
func plainTotal(l []api.Stretch, s api.Saw, blocks []api.Block) (total int, ok bool) {
	for i, b := range blocks {
		value, ok := plainValue(l, s, b)
		if !ok || i > 0 && b.From-blocks[i-1].To < s.Kerf {
			return 0, false
		}
		total += value
	}
	return total, true
}

// croppings calls look with all croppings.
func croppings(l []api.Stretch, s api.Saw, look func([]api.Block)) {
	blocks := allowed(l, s)
	var extend func(before []api.Block)
	extend = func(before []api.Block) {
		look(before)
		for _, b := range blocks {
			if n := len(before); n == 0 || b.From >= before[n-1].To+s.Kerf {
				extend(append(slices.Clip(before), b))
			}
		}
	}
	extend(nil)
}

// compareBlocks compares two lists.
func compareBlocks(a, b []api.Block) int {
	return slices.CompareFunc(a, b, func(x, y api.Block) int {
		return slices.Compare([]int{x.From, x.To}, []int{y.From, y.To})
	})
}

// plainBest looks at all croppings.
func plainBest(l []api.Stretch, s api.Saw) (best []api.Block, total int) {
	croppings(l, s, func(x []api.Block) {
		n, _ := plainTotal(l, s, x)
		fewer := len(x) - len(best)
		if n > total || n == total && (fewer < 0 || fewer == 0 && compareBlocks(x, best) < 0) {
			best, total = slices.Clone(x), n
		}
	})
	return best, total
}

// plainProves looks at one condition of a proof after another.
func plainProves(l []api.Stretch, s api.Saw, bounds []int) bool {
	if len(bounds) != lengthOf(l)+1 {
		return false
	}
	for i, n := range bounds {
		if n < 0 || n > api.MaxNumber || i > 0 && bounds[i-1] < n {
			return false
		}
	}
	for _, b := range allowed(l, s) {
		value, _ := plainValue(l, s, b)
		if bounds[b.From]-bounds[min(b.To+s.Kerf, lengthOf(l))] < value {
			return false
		}
	}
	return true
}

// plainBounds raises numbers from 0 on, each only as far as a condition of a
// proof wants it, until all conditions are true.
func plainBounds(l []api.Stretch, s api.Saw) []int {
	bounds := make([]int, lengthOf(l)+1)
	for blocks := allowed(l, s); !plainProves(l, s, bounds); {
		for i := range len(bounds) - 1 {
			bounds[i] = max(bounds[i], bounds[i+1])
		}
		for _, b := range blocks {
			value, _ := plainValue(l, s, b)
			bounds[b.From] = max(bounds[b.From], value+bounds[min(b.To+s.Kerf, lengthOf(l))])
		}
	}
	return bounds
}

// plainAccount looks at one mm of a boule after another.
func plainAccount(l []api.Stretch, s api.Saw, blocks []api.Block) api.Cropped {
	var c api.Cropped
	for mm := range lengthOf(l) {
		inBlock, inCut := false, false
		for _, b := range blocks {
			inBlock = inBlock || b.From <= mm && mm < b.To
			inCut = inCut || b.To <= mm && mm < b.To+s.Kerf || b.From-s.Kerf <= mm && mm < b.From
		}
		switch {
		case inBlock && inCut:
			panic("a cut goes through a block")
		case inBlock:
			c.Blocks++
		case inCut:
			c.Kerf++
		default:
			c.Scrap++
		}
	}
	return c
}

// best returns what Best returns for arguments that are valid.
func best(t *testing.T, l []api.Stretch, s api.Saw) ([]api.Block, int) {
	t.Helper()
	blocks, total, e := crop.Best(l, s)
	if e != api.OK {
		t.Fatal("Best", l, s, e)
	}
	return blocks, total
}

// bounds returns what Bounds returns for arguments that are valid.
func bounds(t *testing.T, l []api.Stretch, s api.Saw) []int {
	t.Helper()
	b, e := crop.Bounds(l, s)
	if e != api.OK {
		t.Fatal("Bounds", l, s, e)
	}
	return b
}

// proves returns what Proves returns for arguments that are valid.
func proves(t *testing.T, l []api.Stretch, s api.Saw, bounds []int) bool {
	t.Helper()
	ok, e := crop.Proves(l, s, bounds)
	if e != api.OK {
		t.Fatal("Proves", l, s, e)
	}
	return ok
}

// tilt returns a tilt that is known exactly.
func tilt(x, y int) api.Tilt { return api.Tilt{X: at(x), Y: at(y)} }

// anyRange returns a range of numbers from -size to size.
func anyRange(r *rand.Rand, size int) api.Range {
	a, b := r.Intn(2*size+1)-size, r.Intn(2*size+1)-size
	if r.Intn(2) == 0 {
		return at(a)
	}
	return span(min(a, b), max(a, b))
}

// anyTilts returns so many tilts.
func anyTilts(r *rand.Rand, n, size int) []api.Tilt {
	var l []api.Tilt
	for range n {
		l = append(l, api.Tilt{X: anyRange(r, size), Y: anyRange(r, size)})
	}
	return l
}

func size(n int) int { return max(n, -n) }

// plainOff looks at all true tilts.
func plainOff(t api.Tilt, x api.Swivel) api.Range {
	off := span(math.MaxInt, 0)
	for p := t.X.Low; p <= t.X.High; p++ {
		for q := t.Y.Low; q <= t.Y.High; q++ {
			n := size(p+x.X) + size(q+x.Y)
			off = span(min(off.Low, n), max(off.High, n))
		}
	}
	return off
}

// suited is a setting, and the set of the blocks that it suits.
type suited struct {
	api.Swivel
	set uint
}

// settings returns all settings that are at most so far, in ascending order.
func settings(l []api.Tilt, tolerance, far int) []suited {
	var all []suited
	for x := -far; x <= far; x++ {
		for y := -far; y <= far; y++ {
			s := suited{Swivel: api.Swivel{X: x, Y: y}}
			for i, t := range l {
				if plainOff(t, s.Swivel).High <= tolerance {
					s.set |= 1 << i
				}
			}
			all = append(all, s)
		}
	}
	return all
}

// plainTurn returns the first setting that suits a set of blocks.
func plainTurn(all []suited, set uint) (api.Swivel, bool) {
	for _, s := range all {
		if s.set&set == set {
			return s.Swivel, true
		}
	}
	return api.Swivel{}, false
}

// numbers returns the numbers that are in a set.
func numbers(set uint) []int {
	var l []int
	for i := range bits.Len(set) {
		if set>>i&1 == 1 {
			l = append(l, i)
		}
	}
	return l
}

// plainConflict looks at all sets of so many blocks.
func plainConflict(all []suited, n int) []int {
	var best []int
	for set := uint(1); set < 1<<n; set++ {
		x := numbers(set)
		if best != nil && (len(x) > len(best) || len(x) == len(best) && slices.Compare(x, best) > 0) {
			continue
		}
		if _, ok := plainTurn(all, set); !ok {
			best = x
		}
	}
	return best
}
