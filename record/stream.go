package record

import (
	"slices"

	"boule/api"
	"boule/check"
)

// Stream reads frames from bytes that come in pieces.
type Stream struct {
	waiting []byte // from the first byte of a frame on that is not complete
	broken  bool   // something was wrong
}

// New returns a stream.
func New() *Stream { return &Stream{} }

// complete returns the frames at the beginning of bytes, the place behind
// them, and the error of Get there.
func complete(b []byte) (l []api.Frame, at int, e api.Errno) {
	for {
		f, next, e := Get(b, at)
		if e != api.OK {
			return l, at, e
		}
		l = append(l, f)
		at = next
	}
}

// Feed takes bytes in, and returns the frames that are complete then.
func (s *Stream) Feed(b []byte) ([]api.Frame, api.Errno) {
	e := check.First(
		check.Unless(api.ErrNil, func() bool { return s != nil }),
		check.Unless(api.ErrState, func() bool { return !s.broken }),
		check.AtMost(api.MaxPayload, len(b)),
	)
	if e != api.OK {
		return nil, e
	}
	// With the limits of frames and pieces these are never too many for Get.
	all := slices.Concat(s.waiting, b)
	l, at, e := complete(all)
	if e != api.ErrCut {
		s.waiting, s.broken = nil, true
		return l, e
	}
	s.waiting = all[at:]
	return l, api.OK
}

// Rest returns how many bytes wait for the rest of their frame.
func (s *Stream) Rest() int {
	if s == nil {
		return 0
	}
	return len(s.waiting)
}
