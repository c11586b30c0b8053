package record

import (
	"slices"

	"boule/api"
	"boule/check"
)

const (
	mapName = "WMP1"
	bins    = api.MaxBin + 1 // kinds of cells
)

func isSize(width, height int) bool {
	return 1 <= width && width <= api.MaxCells && 1 <= height && height <= api.MaxCells
}

func isMap(m api.WaferMap) bool {
	noCell := func(c int) bool { return c < 0 || c > api.MaxBin }
	return isSize(m.Width, m.Height) && len(m.Cells) == m.Width*m.Height && !slices.ContainsFunc(m.Cells, noCell)
}

// validMap demands that a map is valid.
func validMap(m api.WaferMap) check.Condition {
	return check.Unless(api.ErrArg, func() bool { return isMap(m) })
}

// CheckMap returns the error of a map.
func CheckMap(m api.WaferMap) api.Errno { return check.First(validMap(m)) }

// cells writes cells as runs of equal ones.
func (w *writer) cells(l []int) {
	length := 0
	for i, c := range l {
		length++
		if i+1 == len(l) || l[i+1] != c {
			w.number(bins*(length-1) + c)
			length = 0
		}
	}
}

// cells reads so many cells.
func (r *reader) cells(many int) []int {
	var l []int
	for len(l) < many {
		n := r.number()
		length, cell := n/bins+1, n%bins
		demand(api.ErrForm, length <= many-len(l))
		// Otherwise the run before would not be as long as possible.
		demand(api.ErrForm, len(l) == 0 || l[len(l)-1] != cell)
		l = append(l, slices.Repeat([]int{cell}, length)...)
	}
	return l
}

// WriteMap writes a map.
func WriteMap(m api.WaferMap) ([]byte, api.Errno) {
	if e := check.First(validMap(m)); e != api.OK {
		return nil, e
	}
	var payload, w writer
	payload.number(m.Width)
	payload.number(m.Height)
	payload.cells(m.Cells)
	w.WriteString(mapName)
	w.frame(mapFrame, payload.Bytes())
	return w.Bytes(), api.OK
}

// ReadMap reads a map.
func ReadMap(b []byte) (m api.WaferMap, at int, e api.Errno) {
	at, e = readFile(b, mapName, func(f *file) {
		f.nextFrame(func(kind int, r *reader) {
			demand(api.ErrForm, kind == mapFrame)
			m.Width, m.Height = r.number(), r.number()
			demand(api.ErrForm, isSize(m.Width, m.Height))
			m.Cells = r.cells(m.Width * m.Height)
		})
	})
	if e != api.OK {
		return api.WaferMap{}, at, e
	}
	return m, at, api.OK
}

// turned returns a map turned by a quarter to the right.
func turned(m api.WaferMap) api.WaferMap {
	t := api.WaferMap{Width: m.Height, Height: m.Width}
	for x := range m.Width {
		for y := range m.Height {
			t.Cells = append(t.Cells, m.Cells[(m.Height-1-y)*m.Width+x])
		}
	}
	return t
}

// Turn turns a map by quarters to the right.
func Turn(m api.WaferMap, quarters int) (api.WaferMap, api.Errno) {
	e := check.First(
		validMap(m),
		check.Unless(api.ErrRange, func() bool { return 0 <= quarters && quarters <= 3 }),
	)
	if e != api.OK {
		return api.WaferMap{}, e
	}
	m.Cells = slices.Clone(m.Cells)
	for range quarters {
		m = turned(m)
	}
	return m, api.OK
}

// Worst returns the greater cell of two maps, cell by cell.
func Worst(a, b api.WaferMap) (api.WaferMap, api.Errno) {
	e := check.First(
		validMap(a),
		validMap(b),
		check.Unless(api.ErrArg, func() bool { return a.Width == b.Width && a.Height == b.Height }),
	)
	if e != api.OK {
		return api.WaferMap{}, e
	}
	a.Cells = slices.Clone(a.Cells)
	for i, c := range b.Cells {
		a.Cells[i] = max(a.Cells[i], c)
	}
	return a, api.OK
}
