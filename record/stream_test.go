package record_test

import (
	"slices"
	"testing"

	"boule/api"
	"boule/record"
)

// wantFeed checks the results of Feed, and how many bytes wait then.
func wantFeed(t *testing.T, s *record.Stream, b []byte, frames []api.Frame, want api.Errno, rest int) {
	t.Helper()
	if l, e := s.Feed(b); !sameFrames(l, frames) || e != want || s.Rest() != rest {
		t.Errorf("Feed of %d bytes: got %v, error %d, rest %d; want %v, error %d, rest %d", len(b), l, e, s.Rest(), frames, want, rest)
	}
}

// P6.9: frames that come in pieces.
func TestStream(t *testing.T) {
	s := record.New()
	one, two := api.Frame{Kind: 1}, api.Frame{Kind: 2, Payload: []byte{7, 8, 9}}
	b := put(t, 2, 7, 8, 9)
	if s.Rest() != 0 {
		t.Error(s.Rest())
	}
	wantFeed(t, s, nil, nil, api.OK, 0)
	wantFeed(t, s, []byte{1}, nil, api.OK, 1)
	wantFeed(t, s, []byte{}, nil, api.OK, 1)
	wantFeed(t, s, []byte{0, 6}, nil, api.OK, 3)
	wantFeed(t, s, []byte{14}, []api.Frame{one}, api.OK, 0)
	wantFeed(t, s, b[:6], nil, api.OK, 6)
	wantFeed(t, s, join(b[6:], b, []byte{1, 0, 6, 14}, b[:2]), []api.Frame{two, two, one}, api.OK, 2)
	wantFeed(t, s, b[2:], []api.Frame{two}, api.OK, 0)
	other := record.New()
	wantFeed(t, s, b[:5], nil, api.OK, 5)
	wantFeed(t, other, b, []api.Frame{two}, api.OK, 0)
	if s.Rest() != 5 {
		t.Error("another stream", s.Rest())
	}
}

// P6.9: any other error of Get, which comes with the frames before.
func TestBrokenStream(t *testing.T) {
	good, bad := put(t, 2, 7), put(t, 2, 7)
	bad[4] ^= 1
	for _, c := range []struct {
		b    []byte
		want api.Errno
	}{
		{[]byte{0}, api.ErrForm}, {[]byte{251}, api.ErrForm}, {[]byte{1, 128}, api.ErrShape}, {[]byte{1, 255, 255, 255, 255, 255, 255, 255, 255, 255}, api.ErrRange},
		{join([]byte{1}, plainNumber(api.MaxNumber+1)), api.ErrRange}, {join([]byte{1}, plainNumber(10001)), api.ErrLong}, {bad, api.ErrCheck}, {join(bad, good), api.ErrCheck},
	} {
		for before := range 3 {
			for cut := range c.b {
				s := record.New()
				frames := slices.Repeat([]api.Frame{{Kind: 2, Payload: []byte{7}}}, before)
				all := join(slices.Repeat([][]byte{good}, before)...)
				first, e := s.Feed(join(all, c.b[:cut]))
				if e == api.OK {
					var more []api.Frame
					more, e = s.Feed(c.b[cut:])
					first = append(first, more...)
				}
				if !sameFrames(first, frames) || e != c.want || s.Rest() != 0 {
					t.Error(c.b, before, cut, first, e, s.Rest())
				}
				wantFeed(t, s, nil, nil, api.ErrState, 0)
				wantFeed(t, s, good, nil, api.ErrState, 0)
				wantFeed(t, s, make([]byte, 10001), nil, api.ErrState, 0)
			}
		}
	}
}

// P6.9: no stream, and too many bytes.
func TestStreamErrors(t *testing.T) {
	var none *record.Stream
	wantFeed(t, none, nil, nil, api.ErrNil, 0)
	wantFeed(t, none, put(t, 1), nil, api.ErrNil, 0)
	wantFeed(t, none, make([]byte, 10001), nil, api.ErrNil, 0)
	s := record.New()
	wantFeed(t, s, []byte{1, 0}, nil, api.OK, 2)
	wantFeed(t, s, make([]byte, 10001), nil, api.ErrLong, 2)
	wantFeed(t, s, make([]byte, 40000), nil, api.ErrLong, 2)
	wantFeed(t, s, []byte{6, 14}, []api.Frame{{Kind: 1}}, api.OK, 0)
	// As many as there may be, and as many as can wait.
	full := api.Frame{Kind: 3, Payload: make([]byte, 10000)}
	b := put(t, 3, full.Payload...)
	wantFeed(t, s, b[:10000], nil, api.OK, 10000)
	wantFeed(t, s, b[10000:10004], nil, api.OK, 10004)
	wantFeed(t, s, join(b[10004:], slices.Repeat(put(t, 1), 2499)), slices.Insert(slices.Repeat([]api.Frame{{Kind: 1}}, 2499), 0, full), api.OK, 0)
	wantFeed(t, s, slices.Repeat(put(t, 1), 2500), slices.Repeat([]api.Frame{{Kind: 1}}, 2500), api.OK, 0)
}

// P6.12: in whatever pieces the bytes come, the frames and the error are the same.
func TestPieces(t *testing.T) {
	r := dice()
	for range 2000 {
		var b []byte
		var frames []api.Frame
		for range r.Intn(8) {
			f := anyFrame(r)
			frames = append(frames, f)
			b = append(b, put(t, f.Kind, f.Payload...)...)
		}
		end := api.OK
		if r.Intn(3) == 0 {
			b, end = append(b, 0), api.ErrForm
		}
		rest := r.Intn(3)
		if end == api.OK {
			b = append(b, []byte{5, 3, 1}[:rest]...)
		} else {
			rest = 0
		}
		s := record.New()
		var got []api.Frame
		e := api.OK
		for len(b) > 0 && e == api.OK {
			n := min(len(b), r.Intn(1+r.Intn(400)))
			var l []api.Frame
			l, e = s.Feed(b[:n])
			got, b = append(got, l...), b[n:]
		}
		if !sameFrames(got, frames) || e != end || s.Rest() != rest {
			t.Error(frames, got, e, end, s.Rest(), rest)
		}
	}
}
