package record_test

import (
	"bytes"
	"slices"
	"testing"

	"boule/api"
	"boule/record"
)

// scan returns what Scan returns for bytes that are not too many.
func scan(t *testing.T, b []byte) (found []api.Found, lost []api.Range) {
	t.Helper()
	found, lost, e := record.Scan(b)
	if e != api.OK {
		t.Fatal("Scan", len(b), e)
	}
	return found, lost
}

// plainScan marks the lost bytes, one by one.
func plainScan(b []byte) (found []api.Found, lost []api.Range) {
	missing := make([]bool, len(b)+1)
	for at := 0; at < len(b); {
		f, next, e := plainFrame(b, at)
		if e == api.OK {
			found = append(found, api.Found{At: at, Size: next - at, Kind: f.Kind})
			at = next
		} else {
			missing[at] = true
			at++
		}
	}
	for at, first := 0, -1; at <= len(b); at++ {
		if missing[at] && first < 0 {
			first = at
		}
		if !missing[at] && first >= 0 {
			lost = append(lost, span(first, at-1))
			first = -1
		}
	}
	return found, lost
}

// wantScan checks Scan, and that frames and lost stretches are all bytes.
func wantScan(t *testing.T, b []byte) {
	t.Helper()
	found, lost := scan(t, b)
	wantFound, wantLost := plainScan(b)
	if !slices.Equal(found, wantFound) || !slices.Equal(lost, wantLost) {
		t.Errorf("Scan of %v: got %v, %v; want %v, %v", b, found, lost, wantFound, wantLost)
	}
	at := 0
	for at < len(b) {
		switch {
		case len(found) > 0 && found[0].At == at:
			at += found[0].Size
			if record.Check(b[found[0].At:at]) != 0 { // A right check behind what it is of leaves nothing.
				t.Error("check", found[0])
			}
			found = found[1:]
		case len(lost) > 0 && lost[0].Low == at:
			at = lost[0].High + 1
			lost = lost[1:]
		default:
			t.Fatal("a gap", b, at)
		}
	}
	if len(found)+len(lost) > 0 || at != len(b) {
		t.Error("too much", b, found, lost)
	}
}

// P6.5, example 4.
func TestScan(t *testing.T) {
	found, lost := scan(t, []byte{1, 0, 6, 14, 200, 1, 0, 6, 14})
	if !slices.Equal(found, []api.Found{{At: 0, Size: 4, Kind: 1}, {At: 5, Size: 4, Kind: 1}}) || !slices.Equal(lost, []api.Range{span(4, 4)}) {
		t.Error(found, lost)
	}
	for _, c := range []struct {
		b    []byte
		lost []api.Range
	}{
		{nil, nil}, {[]byte{}, nil}, {[]byte{0}, []api.Range{span(0, 0)}}, {[]byte{1, 0, 6}, []api.Range{span(0, 2)}}, {make([]byte, 30000), []api.Range{span(0, 29999)}},
		{[]byte{1, 0, 6, 1, 0, 6, 14, 14, 0}, []api.Range{span(0, 2), span(7, 8)}},
	} {
		if _, lost := scan(t, c.b); !slices.Equal(lost, c.lost) {
			t.Error(c.b, lost)
		}
		wantScan(t, c.b)
	}
	if found, lost, e := record.Scan(make([]byte, 30001)); len(found)+len(lost) != 0 || e != api.ErrLong {
		t.Error(found, lost, e)
	}
}

// P6.5: a frame within a frame is found if the outer one is damaged, and only then.
func TestScanWithin(t *testing.T) {
	outer := put(t, 9, join([]byte{0}, put(t, 3, 7), []byte{0})...)
	if found, lost := scan(t, outer); !slices.Equal(found, []api.Found{{At: 0, Size: 11, Kind: 9}}) || len(lost) != 0 {
		t.Error(found, lost)
	}
	outer[10]++
	if found, lost := scan(t, outer); !slices.Equal(found, []api.Found{{At: 3, Size: 5, Kind: 3}}) || !slices.Equal(lost, []api.Range{span(0, 2), span(8, 10)}) {
		t.Error(found, lost)
	}
}

// P6.5, P6.11: frames with and without damage and other bytes between them.
func TestScanDamaged(t *testing.T) {
	r := dice()
	for range 1000 {
		var b []byte
		var all []api.Found
		for range r.Intn(6) {
			f := anyFrame(r)
			f.Payload = f.Payload[:len(f.Payload)%40]
			x := put(t, f.Kind, f.Payload...)
			all = append(all, api.Found{At: len(b), Size: len(x), Kind: f.Kind})
			b = append(b, x...)
		}
		if found, lost := scan(t, b); !slices.Equal(found, all) || len(lost) != 0 {
			t.Error("nothing is damaged", b, found, lost)
		}
		wantScan(t, anyBytes(r, r.Intn(60)))
		if len(b) == 0 {
			continue
		}
		first := r.Intn(len(b))
		bad := bytes.Clone(b)
		bad[first] ^= byte(1 + r.Intn(255))
		if r.Intn(2) == 0 {
			bad = slices.Insert(bad, first+1, anyBytes(r, 3)...)
		}
		wantScan(t, bad)
		found, _ := scan(t, bad)
		for i, x := range all {
			if x.At+x.Size <= first && (len(found) <= i || found[i] != x) {
				t.Error("before the damage", bad, first, found, x)
			}
		}
	}
}
