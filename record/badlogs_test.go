package record_test

import (
	"bytes"
	"math/rand"
	"slices"
	"testing"

	"boule/api"
	"boule/record"
)

// P6.6: what comes before the frames.
func TestLogNames(t *testing.T) {
	good := logOf(runFrames()...)
	for _, b := range [][]byte{nil, {}, {80}, {80, 85, 76}, {80, 85, 76, 50}, {87, 77, 80, 49}, good[1:], join([]byte{0}, good), join([]byte{81}, good[1:])} {
		wantLogError(t, b, 0, api.ErrForm)
	}
	wantLogError(t, good[:4], 4, api.ErrCut)
	most := make([]byte, 29996)
	wantLogError(t, most, 0, api.ErrForm)
	wantLogError(t, append([]byte{80, 85, 76, 49}, most...), 4, api.ErrForm)
	wantLogError(t, make([]byte, 30001), 0, api.ErrLong)
	wantLogError(t, append(good, make([]byte, 30000)...), 0, api.ErrLong)
}

// P6.6: the error of Get comes first, with the place of the frame.
func TestLogDamage(t *testing.T) {
	l := runFrames()
	good := logOf(l...)
	for i := range l {
		at, end := placeOf(l, i), placeOf(l, i+1)
		for n, e := range map[int]api.Errno{at: api.ErrForm, at + 1: api.ErrShape} {
			bad := slices.Clone(good)
			if bad[n] = 128; e == api.ErrForm {
				bad[n] = 0
			}
			wantLogError(t, bad, at, e)
		}
		for n := at + 2; n < end; n++ {
			bad := slices.Clone(good)
			bad[n] ^= 1
			wantLogError(t, bad, at, api.ErrCheck)
		}
		for n := at; n < end; n++ {
			wantLogError(t, good[:n], at, api.ErrCut)
		}
		wantLogError(t, join(good[:at], []byte{251}), at, api.ErrForm)
		wantLogError(t, join(good[:at], []byte{2}, plainNumber(10001)), at, api.ErrLong)
		wantLogError(t, join(good[:at], []byte{2}, plainNumber(api.MaxNumber+1)), at, api.ErrRange)
	}
	// A frame that is damaged and has a wrong kind; and bytes behind the last one that are a frame.
	wantLogError(t, join(good[:4], []byte{9, 0, 0, 0}), 4, api.ErrCheck)
	wantLogError(t, join(good, plainPut(l[7])), len(good), api.ErrForm)
}

// numbersOf returns the bytes of each number of a payload.
func numbersOf(payload []byte) [][]byte {
	var l [][]byte
	start := 0
	for i, x := range payload {
		if x < 128 {
			l = append(l, payload[start:i+1])
			start = i + 1
		}
	}
	return l
}

// isSigned reports whether the number at a place of a payload is signed.
func isSigned(kind, place int) bool {
	return kind == settingKind && place >= 2 || kind == sampleKind && place == 1
}

// with returns frames, one of which has another payload, made of numbers.
func with(l []api.Frame, i int, numbers ...[]byte) []byte {
	bad := slices.Clone(l)
	bad[i].Payload = join(numbers...)
	return logOf(bad...)
}

// P6.6: payloads that do not have just their numbers, in their forms.
func TestLogPayloads(t *testing.T) {
	l := runFrames()
	for i, f := range l {
		numbers := numbersOf(f.Payload)
		instead := func(k int, b ...[]byte) []byte {
			return with(l, i, slices.Replace(slices.Clone(numbers), k, k+1, b...)...)
		}
		for k, x := range numbers {
			endless := append(slices.Clone(x[:len(x)-1]), x[len(x)-1]|128)
			for _, b := range [][]byte{
				instead(k), instead(k, x, []byte{0}), instead(k, x, x), instead(k, []byte{128}, x), instead(k, bytes.Repeat([]byte{255}, 9), []byte{1}),
				instead(k, plainSigned(api.MaxNumber+1)), instead(k, plainSigned(-api.MaxNumber-1)),
			} {
				wantLogError(t, b, placeOf(l, i), api.ErrForm)
			}
			if k == len(numbers)-1 {
				wantLogError(t, instead(k, endless), placeOf(l, i), api.ErrForm)
			}
		}
		wantLogError(t, with(l, i), placeOf(l, i), api.ErrForm)
		wantLogError(t, with(l, i, f.Payload, []byte{128}), placeOf(l, i), api.ErrForm)
	}
}

// P6.6: great numbers have the form of a number; too great ones do not have it.
func TestGreatLogPayloads(t *testing.T) {
	l := runFrames()[:7]
	end := api.Frame{Kind: endKind, Payload: []byte{6}}
	for i, f := range l {
		for k, x := range numbersOf(f.Payload) {
			great := [][]byte{plainNumber(api.MaxNumber)}
			over := [][]byte{plainNumber(api.MaxNumber + 1)}
			if isSigned(f.Kind, k) {
				great = [][]byte{plainSigned(api.MaxNumber), plainSigned(-api.MaxNumber)}
				over = [][]byte{plainSigned(api.MaxNumber + 1), plainSigned(-api.MaxNumber - 1)}
			}
			numbers := numbersOf(f.Payload)
			all := append(slices.Clone(l), end)
			for _, b := range great {
				numbers[k] = b
				wantLogError(t, with(all, i, numbers...), 0, api.ErrArg)
			}
			for _, b := range over {
				numbers[k] = b
				wantLogError(t, with(all, i, numbers...), placeOf(l, i), api.ErrForm)
			}
			numbers[k] = x
			if r, at, e := record.ReadLog(with(all, i, numbers...)); !sameRun(r, run()) || at != 0 || e != api.OK {
				t.Error(r, at, e)
			}
		}
	}
}

// P6.6: which kinds may come where.
func TestLogKinds(t *testing.T) {
	l := runFrames()
	for i, f := range l {
		for kind := 1; kind <= 250; kind++ {
			if kind == f.Kind {
				continue
			}
			bad := slices.Clone(l)
			bad[i].Kind = kind
			wantLogError(t, logOf(bad...), placeOf(l, i), api.ErrForm)
		}
		wantLogError(t, logOf(slices.Insert(slices.Clone(l), i, api.Frame{Kind: 6, Payload: []byte{0}})...), placeOf(l, i), api.ErrForm)
		if i > 0 {
			wantLogError(t, logOf(slices.Insert(slices.Clone(l), i, l[0])...), placeOf(l, i), api.ErrForm)
		}
	}
	wantLogError(t, logOf(l[1:]...), 4, api.ErrForm)
	wantLogError(t, logOf(l[:7]...), placeOf(l, 7), api.ErrCut)
}

// P6.6: what may come behind what, at the same time and later.
func TestLogOrder(t *testing.T) {
	first := []api.Frame{{Kind: startKind, Payload: []byte{9}}, {Kind: settingKind, Payload: []byte{0, 1, 0, 0, 0, 0, 0, 0}}}
	later := func(kind, seconds int) api.Frame {
		behind := map[int][]byte{settingKind: {1, 0, 0, 0, 0, 0, 0}, eventKind: {1}, sampleKind: {0, 0}}
		return api.Frame{Kind: kind, Payload: join([]byte{byte(seconds)}, behind[kind])}
	}
	for a := settingKind; a <= sampleKind; a++ {
		for b := settingKind; b <= sampleKind; b++ {
			for seconds := range 2 {
				l := append(slices.Clone(first), later(a, 3), later(b, seconds), api.Frame{Kind: endKind, Payload: []byte{3}})
				if seconds == 0 && (b < a || a == b && a != eventKind) {
					wantLogError(t, logOf(l...), placeOf(l, 3), api.ErrForm)
					continue
				}
				if r, at, e := record.ReadLog(logOf(l...)); len(r.Settings)+len(r.Events)+len(r.Samples) != 3 || at != 0 || e != api.OK {
					t.Error(a, b, seconds, r, at, e)
				}
			}
		}
	}
	// No entry is before the first one: it is only that the run is not valid.
	for kind := settingKind; kind <= sampleKind; kind++ {
		for seconds := range 2 {
			if kind == settingKind && seconds == 0 {
				continue
			}
			wantLogError(t, logOf(first[0], later(kind, seconds), api.Frame{Kind: endKind, Payload: []byte{1}}), 0, api.ErrArg)
		}
	}
	wantLogError(t, logOf(first[0], later(eventKind, 0), first[1], api.Frame{Kind: endKind, Payload: []byte{2}}), 4+5+6, api.ErrForm)
}

// P6.6: the number of entries, and a run without any.
func TestLogCount(t *testing.T) {
	l := runFrames()
	for _, n := range []int{0, 1, 5, 7, 8, 127, api.MaxNumber} {
		bad := slices.Clone(l)
		bad[7].Payload = plainNumber(n)
		wantLogError(t, logOf(bad...), placeOf(l, 7), api.ErrForm)
	}
	wantLogError(t, logOf(l[0], api.Frame{Kind: endKind, Payload: []byte{0}}), 0, api.ErrArg)
	wantLogError(t, logOf(l[0], api.Frame{Kind: endKind, Payload: []byte{1}}), placeOf(l, 1), api.ErrForm)
	// The form comes before what the run is.
	bad := slices.Clone(l)
	bad[0].Payload = []byte{0}
	wantLogError(t, logOf(bad...), 0, api.ErrArg)
	wantLogError(t, append(logOf(bad...), 7), len(logOf(bad...)), api.ErrForm)
}

// P6.6, R5: the greatest numbers that a log can have, one upon the other.
func TestLogOfGreatNumbers(t *testing.T) {
	great, low := plainNumber(api.MaxNumber), plainSigned(api.MaxNumber)
	for _, f := range []api.Frame{
		{Kind: settingKind, Payload: join(great, great, low, low, low, low, low, low)}, {Kind: settingKind, Payload: join([]byte{1, 1}, bytes.Repeat(plainSigned(-api.MaxNumber), 6))},
		{Kind: eventKind, Payload: join(great, great)}, {Kind: eventKind, Payload: join(great, []byte{1})},
		{Kind: sampleKind, Payload: join(great, low, great)}, {Kind: sampleKind, Payload: join([]byte{1}, low, great)},
	} {
		many := 29970 / len(plainPut(f))
		l := append([]api.Frame{{Kind: startKind, Payload: great}}, slices.Repeat([]api.Frame{f}, many)...)
		b := logOf(append(l, api.Frame{Kind: endKind, Payload: plainNumber(many)})...)
		wantLogError(t, b, 0, api.ErrArg)
	}
}

// counted returns the frames of a log, in which the last one has the number of entries.
func counted(l []api.Frame) []api.Frame {
	n := len(l) - 1
	return append(l[:n], api.Frame{Kind: endKind, Payload: plainNumber(max(0, n-1))})
}

// changed changes the frames of a log, which is never empty, at some place.
func changed(r *rand.Rand, l []api.Frame) []api.Frame {
	i := r.Intn(len(l))
	payload := slices.Clone(l[i].Payload)
	place := r.Intn(len(payload) + 1)
	switch r.Intn(6) {
	case 0:
		if len(l) > 1 {
			l = counted(slices.Delete(l, i, i+1))
		}
	case 1:
		l = counted(slices.Insert(l, i, l[r.Intn(len(l))]))
	case 2:
		l[i].Payload = slices.Insert(payload, place, anyBytes(r, 1)...)
	default:
		if place < len(payload) {
			payload[place] = anyBytes(r, 1)[0]
		}
		l[i].Payload = payload
	}
	return l
}

// P6.10: whatever is read without an error is what is written for it.
func TestChangedLogs(t *testing.T) {
	r := dice()
	read := 0
	for range 30000 {
		l := runFrames()
		for range 1 + r.Intn(3) {
			l = changed(r, l)
		}
		b := logOf(l...)
		x, at, e := record.ReadLog(b)
		if e != api.OK {
			if !sameRun(x, api.PullRun{}) || at > len(b) {
				t.Error(b, x, at, e)
			}
			continue
		}
		read++
		if w, e := record.WriteLog(x); !bytes.Equal(w, b) || at != 0 || e != api.OK {
			t.Error(b, x, w, at, e)
		}
	}
	if read < 3000 {
		t.Error("logs that were read", read)
	}
}
