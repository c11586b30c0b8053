package record_test

import (
	"bytes"
	"slices"
	"testing"

	"boule/api"
	"boule/record"
)

// P1, R2, R5: whatever the integers, calls come back, and with an error all
// other results are zero values.
func TestHostileIntegers(t *testing.T) {
	for _, a := range hostile {
		if b, e := record.PutNumber(a); (e != api.OK) != (len(b) == 0) {
			t.Error("PutNumber", a, b, e)
		}
		if b, e := record.PutSigned(a); (e != api.OK) != (len(b) == 0) {
			t.Error("PutSigned", a, b, e)
		}
		for _, b := range [][]byte{nil, {0}, {1, 0, 6, 14}, {255, 255}, make([]byte, 30001)} {
			if n, next, e := record.Number(b, a); e != api.OK && (n != 0 || next != 0) {
				t.Error("Number", len(b), a, n, next, e)
			}
			if n, next, e := record.Signed(b, a); e != api.OK && (n != 0 || next != 0) {
				t.Error("Signed", len(b), a, n, next, e)
			}
			if f, next, e := record.Get(b, a); e != api.OK && (!sameFrame(f, api.Frame{}) || next != 0) {
				t.Error("Get", len(b), a, f, next, e)
			}
		}
		if b, e := record.Put(api.Frame{Kind: a}); (e != api.OK) != (len(b) == 0) {
			t.Error("Put", a, b, e)
		}
		for _, b := range hostile {
			hostileRun(t, a, b)
			hostileMap(t, a, b)
		}
	}
}

func hostileRun(t *testing.T, a, b int) {
	t.Helper()
	for _, ch := range []func(r *api.PullRun){
		func(r *api.PullRun) { r.Settings[0].At, r.Settings[1].At = a, b },
		func(r *api.PullRun) { r.Settings[0].Phase, r.Settings[1].Phase = api.Phase(a), api.Phase(b) },
		func(r *api.PullRun) { r.Settings[0].Values[0], r.Settings[1].Values[5] = a, b },
		func(r *api.PullRun) { r.End, r.Events[0].Kind = a, api.Happening(b) },
		func(r *api.PullRun) { r.Events[0].At, r.Events[1].At = a, b },
		func(r *api.PullRun) { r.Samples[0].At, r.Samples[1].At = a, b },
		func(r *api.PullRun) { r.Samples[0].Seen, r.Samples[1].Seen = span(a, b), span(b, a) },
	} {
		r := run()
		ch(&r)
		w, e := record.WriteLog(r)
		if e != api.OK {
			if len(w) != 0 || e != api.ErrArg {
				t.Error("WriteLog", r, w, e)
			}
			continue
		}
		if x, at, e := record.ReadLog(w); !sameRun(x, r) || at != 0 || e != api.OK {
			t.Error("ReadLog", r, x, at, e)
		}
	}
}

func hostileMap(t *testing.T, a, b int) {
	t.Helper()
	for _, m := range []api.WaferMap{{Width: a, Height: b, Cells: []int{1}}, {Width: 2, Height: 1, Cells: []int{a, b}}, {Width: a, Height: b}, {Width: b, Height: 1, Cells: make([]int, 60)}} {
		bad := record.CheckMap(m) != api.OK
		if w, e := record.WriteMap(m); bad != (e == api.ErrArg) || bad != (len(w) == 0) {
			t.Error("WriteMap", m, w, e)
		}
		if w, e := record.Turn(m, a); bad && e != api.ErrArg || e != api.OK && !sameMap(w, api.WaferMap{}) {
			t.Error("Turn", m, a, w, e)
		}
		if w, e := record.Worst(m, m); bad && e != api.ErrArg || !bad && !sameMap(w, m) {
			t.Error("Worst", m, w, e)
		}
	}
}

// P1: whatever the bytes, calls come back.
func TestHostileBytes(t *testing.T) {
	r := dice()
	for range 5000 {
		b := anyBytes(r, r.Intn(50))
		switch r.Intn(4) {
		case 0:
			b = append([]byte{80, 85, 76, 49}, b...)
		case 1:
			b = append([]byte{87, 77, 80, 49}, b...)
		}
		if x, at, e := record.ReadLog(b); e == api.OK || at > len(b) || !sameRun(x, api.PullRun{}) {
			t.Error("ReadLog", b, x, at, e)
		}
		if m, at, e := record.ReadMap(b); e == api.OK || at > 4 || !sameMap(m, api.WaferMap{}) {
			t.Error("ReadMap", b, m, at, e)
		}
		record.New().Feed(b)
	}
}

// P1, P6.5: bytes in which every other one seems to begin the longest frame come back soon.
func TestScanOfManyBeginnings(t *testing.T) {
	found, lost := scan(t, bytes.Repeat([]byte{206, 16}, 15000))
	if len(found) != 0 || !slices.Equal(lost, []api.Range{span(0, 29999)}) {
		t.Error(found, lost)
	}
}

// R3: no list and an empty one.
func TestEmptyLists(t *testing.T) {
	if a, b := put(t, 1), put(t, 1, []byte{}...); !bytes.Equal(a, b) || !bytes.Equal(a, []byte{1, 0, 6, 14}) {
		t.Error(a, b)
	}
	r := api.PullRun{Settings: []api.PullSetting{{Phase: api.PhaseSeed}}, End: 1}
	b := writeLog(t, r)
	r.Samples, r.Events = []api.Sample{}, []api.Happened{}
	if w := writeLog(t, r); !bytes.Equal(w, b) {
		t.Error(b, w)
	}
	if x, at, e := record.ReadLog(b); !sameRun(x, r) || at != 0 || e != api.OK {
		t.Error(x, at, e)
	}
}

// R4: no argument is changed, and what is done to arguments and results
// afterwards changes nothing.
func TestMemory(t *testing.T) {
	// Room behind the bytes, so that whoever appends to them writes into it.
	room := join(put(t, 7, 1, 2, 3), put(t, 8, 4), []byte{9, 9})
	b, same := room[:14], slices.Clone(room)
	f, _, _ := record.Get(b, 0)
	f.Payload[0], f.Payload[2] = 99, 99
	_ = append(f.Payload, 99)
	for range 2 {
		found, lost := scan(t, b)
		if !slices.Equal(found, []api.Found{{At: 0, Size: 7, Kind: 7}, {At: 7, Size: 5, Kind: 8}}) || !slices.Equal(lost, []api.Range{span(12, 13)}) {
			t.Error(found, lost)
		}
		found[0], lost[0] = api.Found{}, span(0, 0)
	}
	if !bytes.Equal(room, same) {
		t.Error(room)
	}

	r := run()
	log := writeLog(t, r)
	x, _, _ := record.ReadLog(log)
	x.Settings[0].At, x.Samples[0].At, x.Events[0].At = 9, 9, 9
	if w := writeLog(t, run()); !sameRun(r, run()) || !bytes.Equal(log, w) {
		t.Error(r, log)
	}
	log[0] = 0

	m, o := sixCells(), sixCells()
	for q := range 4 {
		turn(t, m, q).Cells[0] = 5
	}
	worst(t, m, o).Cells[1] = 5
	if w, _ := record.WriteMap(m); !sameMap(m, sixCells()) || !sameMap(o, sixCells()) || !bytes.Equal(w, mapBytes(3, 2, 8, 17, 0)) {
		t.Error(m, o)
	}
}

// R4: a stream shares no memory with what it is fed, nor with its frames.
func TestStreamMemory(t *testing.T) {
	s := record.New()
	b := put(t, 7, 1, 2, 3)
	piece := slices.Clone(b[:4])
	wantFeed(t, s, piece, nil, api.OK, 4)
	piece[0], piece[2] = 0, 0
	l, e := s.Feed(join(b[4:], b, b[:3]))
	if !sameFrames(l, slices.Repeat([]api.Frame{{Kind: 7, Payload: []byte{1, 2, 3}}}, 2)) || e != api.OK {
		t.Error(l, e)
	}
	for _, f := range l {
		f.Payload[1] = 99
		_ = append(f.Payload, 99, 99, 99, 99, 99)
	}
	if l[0].Payload[0] != 1 || l[1].Payload[0] != 1 {
		t.Error(l)
	}
	wantFeed(t, s, b[3:], []api.Frame{{Kind: 7, Payload: []byte{1, 2, 3}}}, api.OK, 0)
}
