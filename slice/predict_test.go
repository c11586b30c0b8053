package slice_test

import (
	"math"
	"slices"
	"testing"

	"boule/api"
	"boule/slice"
)

// P8.2, and example 1.
func TestPredict(t *testing.T) {
	thin, away := wire(), wire()
	thin.Least, away.Wear = 115, span(40, 100)
	surely := wire()
	surely.Least = 120
	one, none := web(), web()
	one.Grooves, none.Start = 1, 3000
	most := api.Sliced{Kerf: span(628, 682), Ends: span(131, 146), Wire: span(112, 118), Breaks: api.Never}
	most.Slices = []api.Range{span(728, 740), span(729, 742), span(730, 744)}
	three := most.Slices
	for _, c := range []struct {
		name   string
		w      api.Wire
		b      api.Web
		length int
		want   api.Sliced
	}{
		{"example 1", wire(), web(), 3000, most},
		{"it may break", thin, web(), 3000, with(most, api.Possibly)},
		{"it breaks", surely, web(), 3000, with(most, api.Surely)},
		{"a block that ends at the first place", wire(), web(), 100, uncut(100, span(120, 122))},
		{"a block that ends before it", wire(), web(), 99, uncut(99, span(120, 122))},
		{"the first place is at the end", wire(), none, 3000, uncut(3000, span(120, 122))},
		{"a wire that breaks in no groove", surely, web(), 100, uncut(100, span(120, 122))},
		{"only a nm is cut", wire(), web(), 101, api.Sliced{Kerf: at(1), Ends: at(100), Wire: span(118, 121), Breaks: api.Never}},
		{"a groove in a long block", wire(), one, 3000, api.Sliced{Kerf: span(160, 172), Ends: span(2828, 2840), Wire: span(118, 121), Breaks: api.Never}},
		{"the last cut ends at the end", wire(), web(), 2850, api.Sliced{Slices: three, Kerf: span(160+158+156+50, 172+171+170+50), Ends: at(100), Wire: span(112, 118), Breaks: api.Never}},
		{"the last cut may end at the end", wire(), web(), 2960, api.Sliced{Slices: three, Kerf: span(628, 673), Ends: span(100, 106), Wire: span(112, 118), Breaks: api.Never}},
		{"more grooves than are used", wire(), web(), 2800, api.Sliced{Slices: three[:2], Kerf: span(474, 513), Ends: span(830, 844), Wire: span(114, 119), Breaks: api.Never}},
		{"more block than grooves", wire(), web(), 50000, api.Sliced{Slices: three, Kerf: span(628, 682), Ends: span(100+47200-169, 100+47200-154), Wire: span(112, 118), Breaks: api.Never}},
		{"a wire that is worn away", away, web(), 3000, api.Sliced{
			Slices: []api.Range{span(728, 740), span(768, 840), span(808, 860)},
			Kerf:   span(160+60+40+40, 172+132+92+52), Ends: span(248, 260), Wire: at(0), Breaks: api.Surely,
		}},
	} {
		if x := predicted(t, c.w, c.b, c.length); !sameSliced(x, c.want) {
			t.Error(c.name, x, "want", c.want)
		}
	}
}

// with returns a result with another grade.
func with(x api.Sliced, g api.Grade) api.Sliced {
	x.Breaks = g
	return x
}

// uncut is a block in which no groove is used.
func uncut(length int, wire api.Range) api.Sliced {
	return api.Sliced{Ends: at(length), Wire: wire, Breaks: api.Never}
}

// P8.2: the least diameter with which a wire does not break, in the last groove.
func TestBreaks(t *testing.T) {
	for _, c := range []struct {
		least, length int
		want          api.Grade
	}{
		{0, 3000, api.Never}, {114, 3000, api.Never}, {115, 3000, api.Possibly}, {119, 3000, api.Possibly}, {120, 3000, api.Surely},
		{120, 1000, api.Never}, {121, 1000, api.Possibly}, {122, 1000, api.Possibly}, {123, 1000, api.Surely}, {api.MaxPitch, 1000, api.Surely},
		{api.MaxPitch, 100, api.Never},
	} {
		w := wire()
		w.Least = c.least
		if x := predicted(t, w, web(), c.length); x.Breaks != c.want {
			t.Error(c, x)
		}
	}
	for least, want := range []api.Grade{api.Never, api.Surely} { // Nothing is less than 0.
		w := api.Wire{Diameter: at(5), Wear: at(9), Least: least}
		if x := predicted(t, w, web(), 3000); x.Breaks != want || x.Wire != at(0) {
			t.Error("worn away", least, x)
		}
	}
}

// P8.2: as many grooves as there can be, and the greatest lengths.
func TestGreatestWeb(t *testing.T) {
	w := api.Wire{Diameter: span(150000, 150001), Wear: span(0, 75)}
	b := api.Web{Pitch: 300000, Grooves: api.MaxWires, Slurry: span(0, 100)}
	x := predicted(t, w, b, api.MaxAlong)
	if len(x.Slices) != 1999 || x.Kerf != span(2000*150000-75*1999*1000, 2000*150101) || x.Ends != span(149899, 299925) || x.Wire != span(0, 150001) || x.Breaks != api.Never {
		t.Error(len(x.Slices), x.Kerf, x.Ends, x.Wire, x.Breaks)
	}
	for i, r := range x.Slices {
		if r != span(149899, 150000+75*i) {
			t.Fatal("slice", i, r)
		}
	}
	b.Start = api.MaxAlong
	if x := predicted(t, w, b, api.MaxAlong); !sameSliced(x, uncut(api.MaxAlong, w.Diameter)) {
		t.Error("nothing is cut", x)
	}
	b.Start--
	if x := predicted(t, w, b, api.MaxAlong); len(x.Slices) != 0 || x.Kerf != at(1) || x.Ends != at(api.MaxAlong-1) {
		t.Error("a nm is cut", x)
	}
}

// P8.3, and example 2.
func TestFollow(t *testing.T) {
	away := wire()
	away.Wear = span(0, 100)
	for _, c := range []struct {
		name   string
		w      api.Wire
		length int
		c      api.Cutting
		want   api.Parts
		wire   int
	}{
		{"example 2", wire(), 3000, api.Cutting{Diameter: 121, Wear: []int{1, 2, 1, 2}, Slurry: []int{40, 41, 42, 43}},
			api.Parts{Slices: []int{739, 739, 740}, Kerfs: []int{161, 161, 160, 160}, Top: 100, Bottom: 40}, 115},
		{"the last cut ends at the end", wire(), 2900, api.Cutting{Diameter: 120, Wear: []int{1, 1, 1, 1}, Slurry: []int{50, 40, 50, 40}},
			api.Parts{Slices: []int{730, 741, 732}, Kerfs: []int{170, 159, 168, 100}, Top: 100}, 116},
		{"one groove", wire(), 1000, api.Cutting{Diameter: 122, Wear: []int{2}, Slurry: []int{45}},
			api.Parts{Kerfs: []int{167}, Top: 100, Bottom: 733}, 120},
		{"no groove", wire(), 100, api.Cutting{Diameter: 121}, api.Parts{Top: 100}, 121},
		{"a wire that is worn away", away, 3000, api.Cutting{Diameter: 120, Wear: []int{50, 100, 0, 7}, Slurry: []int{40, 50, 40, 50}},
			api.Parts{Slices: []int{740, 780, 860}, Kerfs: []int{160, 120, 40, 50}, Top: 100, Bottom: 150}, 0},
	} {
		p, n, e := slice.Follow(c.w, web(), c.length, c.c)
		if e != api.OK || n != c.wire || !sameParts(p, c.want) {
			t.Error(c.name, p, n, e, "want", c.want, c.wire)
		}
	}
}

// P8.3: errors, and their order.
func TestFollowErrors(t *testing.T) {
	wantError := func(length int, c api.Cutting, want api.Errno) {
		t.Helper()
		if p, n, e := slice.Follow(wire(), web(), length, c); !sameParts(p, api.Parts{}) || n != 0 || e != want {
			t.Error("Follow", length, c, p, n, e, "want", want)
		}
	}
	good := func() api.Cutting {
		return api.Cutting{Diameter: 121, Wear: []int{1, 2, 1, 2}, Slurry: []int{40, 50, 40, 50}}
	}
	four := []int{1, 2, 1, 2}
	for _, wear := range [][]int{nil, {}, {1}, four[:3], {1, 2, 1, 2, 1}, {9, 9, 9}} {
		c := good()
		c.Wear = wear
		wantError(3000, c, api.ErrArg)
		c.Diameter = 123
		wantError(3000, c, api.ErrArg)
	}
	for _, slurry := range [][]int{nil, {}, {40}, {40, 50, 40}, {40, 50, 40, 50, 40}, {9, 9, 9}} {
		c := good()
		c.Slurry = slurry
		wantError(3000, c, api.ErrArg)
	}
	wantError(2800, good(), api.ErrArg) // Three grooves are used.
	wantError(100, good(), api.ErrArg)
	for _, n := range []int{119, 123, 0, -1, math.MinInt, math.MaxInt} {
		c := good()
		c.Diameter = n
		wantError(3000, c, api.ErrCourse)
		wantError(100, api.Cutting{Diameter: n}, api.ErrCourse)
	}
	for i := range 4 {
		for _, n := range []int{0, 3, -1, math.MinInt, math.MaxInt} {
			c := good()
			c.Wear[i] = n
			wantError(3000, c, api.ErrCourse)
		}
		for _, n := range []int{39, 51, 0, -1, math.MinInt, math.MaxInt} {
			c := good()
			c.Slurry[i] = n
			wantError(3000, c, api.ErrCourse)
		}
	}
}

// P8.4.
func TestJudge(t *testing.T) {
	for _, c := range []struct {
		target api.Range
		want   []api.Grade
	}{ // The slices have 728 to 740, 729 to 742 and 730 to 744.
		{span(728, 741), []api.Grade{api.Surely, api.Possibly, api.Possibly}},
		{span(741, 742), []api.Grade{api.Never, api.Possibly, api.Possibly}},
		{span(729, 742), []api.Grade{api.Possibly, api.Surely, api.Possibly}},
		{span(730, 744), []api.Grade{api.Possibly, api.Possibly, api.Surely}},
		{span(728, 744), []api.Grade{api.Surely, api.Surely, api.Surely}},
		{span(0, 728), []api.Grade{api.Possibly, api.Never, api.Never}},
		{span(0, 727), []api.Grade{api.Never, api.Never, api.Never}},
		{span(743, 5000), []api.Grade{api.Never, api.Never, api.Possibly}},
		{span(745, 5000), []api.Grade{api.Never, api.Never, api.Never}},
		{at(735), []api.Grade{api.Possibly, api.Possibly, api.Possibly}},
		{span(math.MinInt, math.MaxInt), []api.Grade{api.Surely, api.Surely, api.Surely}},
		{at(math.MinInt), []api.Grade{api.Never, api.Never, api.Never}},
		{at(math.MaxInt), []api.Grade{api.Never, api.Never, api.Never}},
	} {
		if g := judged(t, wire(), web(), 3000, c.target); !slices.Equal(g, c.want) {
			t.Error(c.target, g, "want", c.want)
		}
	}
	for _, length := range []int{100, 101, 1000} {
		if g := judged(t, wire(), web(), length, span(0, 5)); len(g) != 0 {
			t.Error("no slices", length, g)
		}
	}
	for _, bad := range []api.Range{span(2, 1), span(1, 0), span(math.MaxInt, math.MinInt)} {
		if g, e := slice.Judge(wire(), web(), 3000, bad); len(g) != 0 || e != api.ErrArg {
			t.Error("a bad target", bad, g, e)
		}
	}
}

// P8.2, P8.3, P8.4, P8.11: as all courses say.
func TestAllCourses(t *testing.T) {
	r := dice()
	breaks, grades, used := map[api.Grade]int{}, map[api.Grade]int{}, map[int]int{}
	for range 2000 {
		w, b, length := smallSaw(r)
		target := anyRange(r, 0, 12)
		want, g := plainPredict(w, b, length, target)
		if x := predicted(t, w, b, length); !sameSliced(x, want) {
			t.Fatal("Predict", w, b, length, x, "want", want)
		}
		if x := judged(t, w, b, length, target); !slices.Equal(x, g) {
			t.Fatal("Judge", w, b, length, target, x, "want", g)
		}
		breaks[want.Breaks]++
		used[plainUsed(b, length)]++
		for _, x := range g {
			grades[x]++
		}
	}
	for n := range 4 {
		if used[n] < 50 {
			t.Error("few saws with some numbers of grooves", used)
		}
	}
	for g := api.Surely; g <= api.Never; g++ {
		if breaks[g] < 50 || grades[g] < 50 {
			t.Error("few of some grades", breaks, grades)
		}
	}
}

// P8.3, P8.10: each nm of a block is in one part.
func TestFollowAllCourses(t *testing.T) {
	r := dice()
	ended := 0
	for range 600 {
		w, b, length := smallSaw(r)
		courses(w, b, length, func(c api.Cutting) {
			want := plainFollow(b, length, c)
			p, n := followed(t, w, b, length, c)
			if !sameParts(p, want) || n != plainWires(c)[len(c.Wear)] {
				t.Fatal("Follow", w, b, length, c, p, n, "want", want)
			}
			if last := len(c.Wear) - 1; last >= 0 && want.Kerfs[last] < plainWires(c)[last]+c.Slurry[last] {
				ended++
			}
		})
	}
	if ended < 1000 {
		t.Error("few cuts that end at the end", ended)
	}
}

// P8.10, P8.11, T1, T2: whatever the size, nothing is lost, and the numbers of a
// course lie in the ranges.
func TestCoursesLieInTheRanges(t *testing.T) {
	r := dice()
	for range 1000 {
		w, b, length := anySaw(r)
		c := anyCourse(r, w, b, length)
		p, n := followed(t, w, b, length, c)
		if p.Top+sum(p.Kerfs)+sum(p.Slices)+p.Bottom != length {
			t.Fatal("lost", w, b, length, c, p)
		}
		x := predicted(t, w, b, length)
		if !inside(at(sum(p.Kerfs)), x.Kerf) || !inside(at(p.Top+p.Bottom), x.Ends) || !inside(at(n), x.Wire) || len(p.Slices) != len(x.Slices) {
			t.Fatal(w, b, length, c, p, n, x)
		}
		for i, thickness := range p.Slices {
			if !inside(at(thickness), x.Slices[i]) {
				t.Fatal("slice", i, w, b, length, c, p, x)
			}
		}
		least := slices.Min(append(plainWires(c)[:len(c.Wear)], math.MaxInt))
		if x.Breaks == api.Surely && least >= w.Least || x.Breaks == api.Never && least < w.Least {
			t.Fatal("breaks", w, b, length, c, x)
		}
	}
}

// extremeCourse returns the course in which the wire is as thick, or as thin, as
// it can be in each groove, and all cuts as wide, or as narrow.
func extremeCourse(w api.Wire, b api.Web, length int, wide bool) api.Cutting {
	c := api.Cutting{Diameter: w.Diameter.Low}
	wear, slurry := w.Wear.High, b.Slurry.Low
	if wide {
		c.Diameter, wear, slurry = w.Diameter.High, w.Wear.Low, b.Slurry.High
	}
	for range plainUsed(b, length) {
		c.Wear, c.Slurry = append(c.Wear, wear), append(c.Slurry, slurry)
	}
	return c
}

// P8.11: whatever the size, each end is the number of some course, and no end is
// less than that of the slice before it.
func TestEndsAreReached(t *testing.T) {
	r := dice()
	for range 1000 {
		w, b, length := anySaw(r)
		x := predicted(t, w, b, length)
		wide, thick := followed(t, w, b, length, extremeCourse(w, b, length, true))
		narrow, thin := followed(t, w, b, length, extremeCourse(w, b, length, false))
		if x.Kerf != span(sum(narrow.Kerfs), sum(wide.Kerfs)) || x.Ends != span(wide.Top+wide.Bottom, narrow.Top+narrow.Bottom) || x.Wire != span(thin, thick) {
			t.Fatal(w, b, length, x)
		}
		for i, s := range x.Slices {
			if s != span(wide.Slices[i], narrow.Slices[i]) || i > 0 && (s.Low < x.Slices[i-1].Low || s.High < x.Slices[i-1].High) {
				t.Fatal("slice", i, w, b, length, x)
			}
		}
	}
}

// P8.12: with narrower ranges no range gets wider, and what was known stays so.
func TestWhatIsKnownBetter(t *testing.T) {
	r := dice()
	for range 2000 {
		w, b, length := anySaw(r)
		x := predicted(t, w, b, length)
		target := span(0, 0)
		if len(x.Slices) > 0 {
			s := x.Slices[r.Intn(len(x.Slices))]
			target = span(s.Low-r.Intn(3), s.High-r.Intn(3))
			target.High = max(target.Low, target.High)
		}
		g, before := judged(t, w, b, length, target), runs(t, w, b, length)
		w.Diameter, w.Wear, b.Slurry = narrowed(r, w.Diameter), narrowed(r, w.Wear), narrowed(r, b.Slurry)
		y := predicted(t, w, b, length)
		if !inside(y.Kerf, x.Kerf) || !inside(y.Ends, x.Ends) || !inside(y.Wire, x.Wire) || x.Breaks != api.Possibly && y.Breaks != x.Breaks {
			t.Fatal(w, b, length, "is", y, "was", x)
		}
		for i, s := range y.Slices {
			if !inside(s, x.Slices[i]) {
				t.Fatal("slice", i, w, b, length, "is", y, "was", x)
			}
		}
		for i, better := range judged(t, w, b, length, target) {
			if g[i] != api.Possibly && better != g[i] {
				t.Fatal("grade", i, w, b, length, target, "is", better, "was", g[i])
			}
		}
		if after := runs(t, w, b, length); !inside(after, before) {
			t.Fatal("Runs", w, b, length, "is", after, "was", before)
		}
	}
}
