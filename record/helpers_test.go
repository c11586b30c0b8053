package record_test

import (
	"bytes"
	"math"
	"math/rand"
	"slices"
	"testing"

	"boule/api"
	"boule/record"
)

// hostile are integers at and around all limits.
var hostile = []int{
	math.MinInt, -api.MaxNumber - 1, -api.MaxNumber, -64, -1, 0, 1, 3, 7, 8, 60, 61, 127, 128, 250, 251, 10000, 10001,
	30000, 30001, 100000, 100001, api.MaxNumber, api.MaxNumber + 1, math.MaxInt,
}

func span(low, high int) api.Range { return api.Range{Low: low, High: high} }

// dice returns the same numbers in every run.
func dice() *rand.Rand { return rand.New(rand.NewSource(1)) }

// anyNumber returns a number from 0 to MaxNumber of any length.
func anyNumber(r *rand.Rand) int { return r.Intn(api.MaxNumber+1) >> r.Intn(50) }

// anyBytes returns bytes, of which many have a meaning.
func anyBytes(r *rand.Rand, n int) []byte {
	var b []byte
	for range n {
		if r.Intn(2) == 0 {
			b = append(b, byte(r.Intn(256)))
		} else {
			b = append(b, []byte{0, 1, 2, 6, 14, 127, 128, 129, 250, 251, 255}[r.Intn(11)])
		}
	}
	return b
}

// anyFrame returns a frame, mostly a small one.
func anyFrame(r *rand.Rand) api.Frame {
	return api.Frame{Kind: 1 + r.Intn(250), Payload: anyBytes(r, r.Intn(300)>>r.Intn(8))}
}

// put returns the bytes of a frame that is valid.
func put(t *testing.T, kind int, payload ...byte) []byte {
	t.Helper()
	b, e := record.Put(api.Frame{Kind: kind, Payload: payload})
	if e != api.OK {
		t.Fatal("Put", kind, len(payload), e)
	}
	return b
}

func sameFrame(a, b api.Frame) bool {
	return a.Kind == b.Kind && bytes.Equal(a.Payload, b.Payload)
}

func sameFrames(a, b []api.Frame) bool { return slices.EqualFunc(a, b, sameFrame) }

func sameRun(a, b api.PullRun) bool {
	return slices.Equal(a.Settings, b.Settings) && a.End == b.End && slices.Equal(a.Samples, b.Samples) && slices.Equal(a.Events, b.Events)
}

func sameMap(a, b api.WaferMap) bool {
	return a.Width == b.Width && a.Height == b.Height && slices.Equal(a.Cells, b.Cells)
}

// plainNumber writes a number from its last group to the first one.
func plainNumber(n int) []byte {
	b := []byte{byte(n % 128)}
	for n /= 128; n > 0; n /= 128 {
		b = append([]byte{byte(128 + n%128)}, b...)
	}
	return b
}

// plainSigned writes a number that may be below 0.
func plainSigned(n int) []byte {
	if n < 0 {
		return plainNumber(-2*n - 1)
	}
	return plainNumber(2 * n)
}

// plainGet reads a number as the document says it, one error after another.
func plainGet(b []byte, at int, signed bool) (n, next int, e api.Errno) {
	long := 0 // bytes with the highest bit
	for at+long < len(b) && b[at+long] >= 128 {
		long++
	}
	switch {
	case at == len(b):
		return 0, 0, api.ErrCut
	case b[at] == 128:
		return 0, 0, api.ErrShape
	case long >= 9:
		return 0, 0, api.ErrRange
	case at+long == len(b):
		return 0, 0, api.ErrCut
	}
	for _, x := range b[at : at+long+1] {
		n = n*128 + int(x%128)
	}
	if signed && n%2 == 0 {
		n /= 2
	} else if signed {
		n = -(n/2 + 1)
	}
	if n > api.MaxNumber || n < -api.MaxNumber {
		return 0, 0, api.ErrRange
	}
	return n, at + long + 1, api.OK
}

// plainCheck goes bit by bit, as the document says it.
func plainCheck(b []byte) int {
	c := 65535
	for _, x := range b {
		for bit := 7; bit >= 0; bit-- {
			differ := c/32768 != int(x>>bit)%2
			c = c * 2 % 65536
			if differ {
				c ^= 32773
			}
		}
	}
	return c
}

// plainPut writes a frame, whatever its kind.
func plainPut(f api.Frame) []byte {
	b := append([]byte{byte(f.Kind)}, plainNumber(len(f.Payload))...)
	b = append(b, f.Payload...)
	c := plainCheck(b)
	return append(b, byte(c/256), byte(c%256))
}

// plainFrame reads a frame as the document says it, one error after another.
func plainFrame(b []byte, at int) (f api.Frame, next int, e api.Errno) {
	if at == len(b) {
		return f, 0, api.ErrCut
	}
	kind := int(b[at])
	if kind == 0 || kind > 250 {
		return f, 0, api.ErrForm
	}
	size, start, e := plainGet(b, at+1, false)
	end := start + size
	switch {
	case e != api.OK:
		return f, 0, e
	case size > 10000:
		return f, 0, api.ErrLong
	case end+2 > len(b):
		return f, 0, api.ErrCut
	case plainCheck(b[at:end]) != int(b[end])*256+int(b[end+1]):
		return f, 0, api.ErrCheck
	}
	return api.Frame{Kind: kind, Payload: b[start:end]}, end + 2, api.OK
}

// join joins bytes.
func join(l ...[]byte) []byte { return slices.Concat(l...) }
