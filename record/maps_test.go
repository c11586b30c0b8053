package record_test

import (
	"bytes"
	"math"
	"math/rand"
	"slices"
	"testing"

	"boule/api"
	"boule/record"
)

const mapKind = 6

// sixCells is the map of the document's example.
func sixCells() api.WaferMap {
	return api.WaferMap{Width: 3, Height: 2, Cells: []int{0, 0, 1, 1, 1, 0}}
}

// mapOf returns a map with such cells, row by row.
func mapOf(rows ...[]int) api.WaferMap {
	return api.WaferMap{Width: len(rows[0]), Height: len(rows), Cells: slices.Concat(rows...)}
}

// mapBytes returns the bytes of a map, whatever they are.
func mapBytes(payload ...byte) []byte {
	return append([]byte{87, 77, 80, 49}, plainPut(api.Frame{Kind: mapKind, Payload: payload})...)
}

// plainMap writes a map by counting from each cell that begins a run to its end.
func plainMap(m api.WaferMap) []byte {
	b := join(plainNumber(m.Width), plainNumber(m.Height))
	for i := 0; i < len(m.Cells); {
		end := i
		for end < len(m.Cells) && m.Cells[end] == m.Cells[i] {
			end++
		}
		b = append(b, plainNumber(8*(end-i-1)+m.Cells[i])...)
		i = end
	}
	return mapBytes(b...)
}

// anyMap returns a map with such a size, often with long runs.
func anyMap(r *rand.Rand, width, height int) api.WaferMap {
	m := api.WaferMap{Width: width, Height: height}
	many := 1 + r.Intn(20)>>r.Intn(5)
	for i := range width * height {
		cell := r.Intn(8)
		if i > 0 && r.Intn(many) > 0 {
			cell = m.Cells[i-1]
		}
		m.Cells = append(m.Cells, cell)
	}
	return m
}

// badMaps are not valid.
func badMaps() []api.WaferMap {
	l := []api.WaferMap{
		{}, {Width: 1, Height: 1}, {Width: 1, Height: 0}, {Width: 0, Height: 1}, {Cells: []int{0}}, {Width: -1, Height: -1, Cells: []int{0}}, {Width: -3, Height: -2, Cells: make([]int, 6)},
		{Width: 3, Height: 2, Cells: make([]int, 5)}, {Width: 3, Height: 2, Cells: make([]int, 7)},
		{Width: 61, Height: 1, Cells: make([]int, 61)}, {Width: 1, Height: 61, Cells: make([]int, 61)}, {Width: 61, Height: 61, Cells: make([]int, 61*61)},
		{Width: 1 << 32, Height: 1 << 32}, {Width: math.MinInt, Height: 2}, {Width: math.MaxInt, Height: math.MaxInt, Cells: []int{0}},
	}
	for _, cell := range []int{-1, 8, math.MinInt, math.MaxInt} {
		for place := range 6 {
			m := sixCells()
			m.Cells[place] = cell
			l = append(l, m)
		}
	}
	return l
}

// P6.7: what is valid, and what is not.
func TestCheckMap(t *testing.T) {
	r := dice()
	for _, m := range []api.WaferMap{sixCells(), anyMap(r, 1, 1), anyMap(r, 60, 1), anyMap(r, 1, 60), anyMap(r, 60, 60), mapOf([]int{0, 1, 2, 3, 4, 5, 6, 7})} {
		if e := record.CheckMap(m); e != api.OK {
			t.Error(m, e)
		}
	}
	for _, m := range badMaps() {
		if e := record.CheckMap(m); e != api.ErrArg {
			t.Error("CheckMap", m, e)
		}
		if b, e := record.WriteMap(m); len(b) != 0 || e != api.ErrArg {
			t.Error("WriteMap", m, b, e)
		}
	}
}

// P6.7, example 6: a map, byte for byte.
func TestMap(t *testing.T) {
	b, e := record.WriteMap(sixCells())
	if !bytes.Equal(b, mapBytes(3, 2, 8, 17, 0)) || e != api.OK {
		t.Error(b, e)
	}
	if m, at, e := record.ReadMap(b); !sameMap(m, sixCells()) || at != 0 || e != api.OK {
		t.Error(m, at, e)
	}
}

// P6.7, P6.10: maps are read as what they were, up to their last byte.
func TestMapsThereAndBack(t *testing.T) {
	r := dice()
	for i := range 500 {
		m := anyMap(r, 1+r.Intn(60), 1+r.Intn(60))
		if i == 0 {
			m = api.WaferMap{Width: 60, Height: 60, Cells: make([]int, 3600)}
		}
		b, e := record.WriteMap(m)
		if !bytes.Equal(b, plainMap(m)) || e != api.OK {
			t.Error(m, b, e)
		}
		if w, at, e := record.ReadMap(b); !sameMap(m, w) || at != 0 || e != api.OK {
			t.Error(m, w, at, e)
		}
		wantMapError(t, append(b, byte(r.Intn(256))), len(b), api.ErrForm)
	}
}

// wantMapError checks that bytes are refused.
func wantMapError(t *testing.T, b []byte, at int, want api.Errno) {
	t.Helper()
	if m, n, e := record.ReadMap(b); !sameMap(m, api.WaferMap{}) || n != at || e != want {
		t.Errorf("ReadMap of %v: got %v, %d, error %d; want %d, error %d", b, m, n, e, at, want)
	}
}

// P6.7: payloads that are not that of a valid map in its form.
func TestMapPayloads(t *testing.T) {
	for _, payload := range [][]byte{
		nil, {3}, {3, 2}, {3, 2, 8}, {3, 2, 8, 17}, {3, 2, 8, 17, 0, 0}, {3, 2, 8, 17, 0, 1}, {3, 2, 8, 17, 128}, {3, 2, 8, 17, 128, 0}, {3, 2, 8, 17, 129},
		{3, 2, 8, 17, 8}, {3, 2, 8, 33}, {3, 2, 48}, {3, 2, 8, 9, 1, 0}, {3, 2, 0, 0, 17, 0}, {3, 2, 8, 16, 0}, {3, 2, 8, 1, 9, 0},
		{3, 2, 129, 8, 0}, {128, 3, 2, 8, 17, 0}, {3, 128, 2, 8, 17, 0}, {131, 2, 8, 17, 0}, {3, 2, 128, 8, 17, 0},
		{0, 2}, {3, 0}, {0, 0}, {0, 2, 0}, {61, 1, 131, 96}, {1, 61, 131, 96}, {61, 61, 129, 232, 64},
		join([]byte{3, 2}, plainNumber(api.MaxNumber)), join([]byte{3, 2}, plainNumber(8*(1<<32)+40)), join([]byte{3, 2}, plainNumber(api.MaxNumber+1)),
		join(plainNumber(api.MaxNumber), []byte{2, 8, 17, 0}), join(plainNumber(api.MaxNumber), plainNumber(api.MaxNumber), []byte{0}),
		join(plainNumber(1<<32), plainNumber(1<<32)), join([]byte{3, 2}, bytes.Repeat([]byte{255}, 10)),
	} {
		wantMapError(t, mapBytes(payload...), 4, api.ErrForm)
	}
	for _, c := range []struct {
		payload []byte
		want    api.WaferMap
	}{
		{[]byte{3, 2, 40}, mapOf([]int{0, 0, 0}, []int{0, 0, 0})}, {[]byte{3, 2, 47}, mapOf([]int{7, 7, 7}, []int{7, 7, 7})}, {[]byte{1, 1, 7}, mapOf([]int{7})},
		{[]byte{60, 1, 131, 88}, api.WaferMap{Width: 60, Height: 1, Cells: make([]int, 60)}}, {[]byte{2, 1, 3, 4}, mapOf([]int{3, 4})},
	} {
		if m, at, e := record.ReadMap(mapBytes(c.payload...)); !sameMap(m, c.want) || at != 0 || e != api.OK {
			t.Error(c.payload, m, at, e)
		}
	}
}

// P6.7: what is wrong before and behind the payload, and which error comes first.
func TestMapErrors(t *testing.T) {
	good := mapBytes(3, 2, 8, 17, 0)
	for _, b := range [][]byte{nil, {}, {87, 77, 80}, {80, 85, 76, 49}, good[1:], join([]byte{0}, good), join([]byte{86}, good[1:])} {
		wantMapError(t, b, 0, api.ErrForm)
	}
	for cut := 4; cut < len(good); cut++ {
		wantMapError(t, good[:cut], 4, api.ErrCut)
	}
	for n := 6; n < len(good); n++ {
		bad := slices.Clone(good)
		bad[n] ^= 1
		wantMapError(t, bad, 4, api.ErrCheck)
	}
	frame := func(kind int) []byte {
		return append([]byte{87, 77, 80, 49}, plainPut(api.Frame{Kind: kind, Payload: []byte{3, 2, 8, 17, 0}})...)
	}
	for kind := range 256 {
		if kind != mapKind {
			wantMapError(t, frame(kind), 4, api.ErrForm)
		}
	}
	wantMapError(t, []byte{87, 77, 80, 49, 6, 128}, 4, api.ErrShape)
	wantMapError(t, join(good[:5], plainNumber(10001)), 4, api.ErrLong)
	wantMapError(t, join(good[:5], plainNumber(api.MaxNumber+1)), 4, api.ErrRange)
	wantMapError(t, []byte{87, 77, 80, 49, 5, 0, 0, 0}, 4, api.ErrCheck)
	wantMapError(t, append(slices.Clone(good), good...), 13, api.ErrForm)
	wantMapError(t, append(mapBytes(3, 2, 8), 0), 4, api.ErrForm)
	wantMapError(t, append(slices.Clone(good), make([]byte, 30000-13)...), 13, api.ErrForm)
	wantMapError(t, append(slices.Clone(good), make([]byte, 30001-13)...), 0, api.ErrLong)
	wantMapError(t, make([]byte, 30001), 0, api.ErrLong)
	wantMapError(t, make([]byte, 30000), 0, api.ErrForm)
}

// P6.10: whatever is read without an error is what is written for it.
func TestChangedMaps(t *testing.T) {
	r := dice()
	read := 0
	for range 50000 {
		payload := []byte{byte(1 + r.Intn(3)), byte(1 + r.Intn(2))}
		for range 1 + r.Intn(5) {
			payload = append(payload, byte(r.Intn(3)+8*r.Intn(4)))
		}
		b := mapBytes(payload...)
		m, at, e := record.ReadMap(b)
		if e != api.OK {
			if !sameMap(m, api.WaferMap{}) || at != 4 || e != api.ErrForm {
				t.Error(b, m, at, e)
			}
			continue
		}
		read++
		if w, e := record.WriteMap(m); !bytes.Equal(w, b) || at != 0 || e != api.OK {
			t.Error(b, m, w, at, e)
		}
	}
	if read < 2000 {
		t.Error("maps that were read", read)
	}
}
