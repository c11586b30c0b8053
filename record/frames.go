package record

import (
	"slices"

	"boule/api"
	"boule/check"
)

const (
	firstCheck = 65535
	checkSize  = 2
)

// exchanges is what is exchanged in the check in the course of four bits, by the
// exclusive or of these and its own four highest ones. Going through bytes four
// bits at a time is fast enough, and needs only a small table.
var exchanges = [16]uint16{
	0x0000, 0x8005, 0x800F, 0x000A, 0x801B, 0x001E, 0x0014, 0x8011,
	0x8033, 0x0036, 0x003C, 0x8039, 0x0028, 0x802D, 0x8027, 0x0022,
}

// Check returns the check of bytes.
func Check(b []byte) int {
	c := uint16(firstCheck)
	for _, x := range b {
		c = c<<4 ^ exchanges[c>>12^uint16(x>>4)]
		c = c<<4 ^ exchanges[c>>12^uint16(x%16)]
	}
	return int(c)
}

// frame writes a frame with such a kind and payload.
func (w *writer) frame(kind int, payload []byte) {
	start := w.Len()
	w.WriteByte(byte(kind))
	w.number(len(payload))
	w.Write(payload)
	c := Check(w.Bytes()[start:])
	w.WriteByte(byte(c >> 8))
	w.WriteByte(byte(c))
}

// frame reads a frame, whose payload is a part of the bytes.
func (r *reader) frame() api.Frame {
	start := r.at
	kind := r.next()
	demand(api.ErrForm, 1 <= kind && kind <= api.MaxKind)
	size := r.number()
	demand(api.ErrLong, size <= api.MaxPayload)
	payload := r.cut(size)
	checked := r.bytes[start:r.at]
	end := r.cut(checkSize)
	demand(api.ErrCheck, Check(checked) == int(end[0])<<8|int(end[1]))
	return api.Frame{Kind: kind, Payload: payload}
}

// Put writes a frame.
func Put(f api.Frame) ([]byte, api.Errno) {
	e := check.First(
		check.Unless(api.ErrRange, func() bool { return 1 <= f.Kind && f.Kind <= api.MaxKind }),
		check.AtMost(api.MaxPayload, len(f.Payload)),
	)
	if e != api.OK {
		return nil, e
	}
	var w writer
	w.frame(f.Kind, f.Payload)
	return w.Bytes(), api.OK
}

// Get reads a frame.
func Get(b []byte, at int) (f api.Frame, next int, e api.Errno) {
	f, next, e = readAt(b, at, (*reader).frame)
	f.Payload = slices.Clone(f.Payload)
	return f, next, e
}

// withLost adds a lost byte to stretches of them.
func withLost(l []api.Range, at int) []api.Range {
	if len(l) > 0 && l[len(l)-1].High == at-1 {
		l[len(l)-1].High = at
		return l
	}
	return append(l, api.Range{Low: at, High: at})
}

// Scan finds frames in bytes that may be damaged, and the stretches between them.
func Scan(b []byte) (found []api.Found, lost []api.Range, e api.Errno) {
	if e := check.First(short(b)); e != api.OK {
		return nil, nil, e
	}
	for at := 0; at < len(b); {
		f, next, e := readAt(b, at, (*reader).frame)
		if e != api.OK {
			lost = withLost(lost, at)
			at++
			continue
		}
		found = append(found, api.Found{At: at, Size: next - at, Kind: f.Kind})
		at = next
	}
	return found, lost, api.OK
}
