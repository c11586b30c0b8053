package record_test

import (
	"bytes"
	"math/rand"
	"slices"
	"testing"

	"boule/api"
	"boule/pull"
	"boule/record"
)

// The kinds of the frames of a log.
const (
	startKind   = 1
	settingKind = 2
	eventKind   = 3
	sampleKind  = 4
	endKind     = 5
)

// run returns a run with two entries of each kind.
func run() api.PullRun {
	return api.PullRun{
		Settings: []api.PullSetting{
			{Phase: api.PhaseSeed, Values: [api.Gauges]int{20, 1000, 3}},
			{At: 300, Phase: api.PhaseNeck, Values: [api.Gauges]int{18, 1000, 0, 1000000}},
		},
		End:     500,
		Samples: []api.Sample{{At: 0, Seen: span(100, 101)}, {At: 300, Seen: span(36, 300)}},
		Events:  []api.Happened{{At: 300, Kind: api.PowerOff}, {At: 300, Kind: api.LeakOpen}},
	}
}

// runFrames are the frames of the log of run.
func runFrames() []api.Frame {
	return []api.Frame{
		{Kind: startKind, Payload: []byte{131, 116}},
		{Kind: settingKind, Payload: []byte{0, 1, 40, 143, 80, 6, 0, 0, 0}},
		{Kind: sampleKind, Payload: []byte{0, 129, 72, 1}},
		{Kind: settingKind, Payload: []byte{130, 44, 2, 3, 0, 5, 250, 137, 0, 0, 0}},
		{Kind: eventKind, Payload: []byte{0, 4}},
		{Kind: eventKind, Payload: []byte{0, 2}},
		{Kind: sampleKind, Payload: []byte{0, 127, 130, 8}},
		{Kind: endKind, Payload: []byte{6}},
	}
}

// logOf returns a log with such frames.
func logOf(l ...api.Frame) []byte {
	b := []byte{80, 85, 76, 49}
	for _, f := range l {
		b = append(b, plainPut(f)...)
	}
	return b
}

// placeOf returns the place of the first byte of a frame.
func placeOf(l []api.Frame, i int) int { return len(logOf(l[:i]...)) }

// writeLog returns the bytes of a run that is valid.
func writeLog(t *testing.T, r api.PullRun) []byte {
	t.Helper()
	b, e := record.WriteLog(r)
	if e != api.OK {
		t.Fatal("WriteLog", r, e)
	}
	return b
}

// wantLogError checks that bytes are refused.
func wantLogError(t *testing.T, b []byte, at int, want api.Errno) {
	t.Helper()
	if r, n, e := record.ReadLog(b); !sameRun(r, api.PullRun{}) || n != at || e != want {
		t.Errorf("ReadLog of %v: got %v, %d, error %d; want %d, error %d", b, r, n, e, at, want)
	}
}

// P6.6: a log, byte for byte.
func TestLog(t *testing.T) {
	b := writeLog(t, run())
	if !bytes.Equal(b, logOf(runFrames()...)) {
		t.Error(b)
	}
	if r, at, e := record.ReadLog(b); !sameRun(r, run()) || at != 0 || e != api.OK {
		t.Error(r, at, e)
	}
}

// P6.6, example 5.
func TestExampleLog(t *testing.T) {
	r := api.PullRun{
		Settings: []api.PullSetting{{Phase: api.PhaseBody}},
		End:      6,
		Samples:  []api.Sample{{Seen: span(100, 101)}},
	}
	want := logOf(
		api.Frame{Kind: startKind, Payload: []byte{6}},
		api.Frame{Kind: settingKind, Payload: []byte{0, 4, 0, 0, 0, 0, 0, 0}},
		api.Frame{Kind: sampleKind, Payload: []byte{0, 129, 72, 1}},
		api.Frame{Kind: endKind, Payload: []byte{2}},
	)
	if b := writeLog(t, r); !bytes.Equal(b, want) {
		t.Error(b)
	}
}

// badRuns are not valid, though each of them can be written down.
func badRuns() map[string]api.PullRun {
	bad := map[string]api.PullRun{}
	change := func(name string, ch func(r *api.PullRun)) {
		r := run()
		ch(&r)
		bad[name] = r
	}
	change("no setting", func(r *api.PullRun) { r.Settings = nil })
	change("no setting at 0", func(r *api.PullRun) { r.Settings[0].At = 1 })
	change("a setting at the end", func(r *api.PullRun) { r.Settings[1].At, r.End = 500, 500 })
	change("an entry behind the end", func(r *api.PullRun) { r.End = 299 })
	change("an event behind the end", func(r *api.PullRun) { r.Events = []api.Happened{{At: 501, Kind: api.LeakOpen}} })
	change("too long", func(r *api.PullRun) { r.End = 100001 })
	change("no phase", func(r *api.PullRun) { r.Settings[1].Phase = 0 })
	change("phase 6", func(r *api.PullRun) { r.Settings[1].Phase = 6 })
	change("a value below 0", func(r *api.PullRun) { r.Settings[1].Values[0] = -1 })
	change("a great value", func(r *api.PullRun) { r.Settings[0].Values[5] = 1000001 })
	change("no event", func(r *api.PullRun) { r.Events[0].Kind = 0 })
	change("event 6", func(r *api.PullRun) { r.Events[1].Kind = 6 })
	change("below 0", func(r *api.PullRun) { r.Samples[0].Seen.Low = -1 })
	change("too wide", func(r *api.PullRun) { r.Samples[1].Seen.High = 1000001 })
	change("far too wide", func(r *api.PullRun) { r.Samples[1].Seen.High = api.MaxNumber })
	many := run()
	for i := range 100 {
		many.Settings = append(many.Settings, api.PullSetting{At: 301 + i, Phase: api.PhaseNeck})
	}
	bad["too many settings"] = many
	return bad
}

// plainSetting writes the setting of that number behind its time.
func plainSetting(l []api.PullSetting, i int) []byte {
	b := plainNumber(int(l[i].Phase))
	for g, v := range l[i].Values {
		if i > 0 {
			v -= l[i-1].Values[g]
		}
		b = append(b, plainSigned(v)...)
	}
	return b
}

// plainSample writes the sample of that number behind its time.
func plainSample(l []api.Sample, i int) []byte {
	low := l[i].Seen.Low
	if i > 0 {
		low -= l[i-1].Seen.Low
	}
	return join(plainSigned(low), plainNumber(l[i].Seen.High-l[i].Seen.Low))
}

// plainLog writes a run whose entries are at most at 600, whether it is valid
// or not, by going through all seconds.
func plainLog(r api.PullRun) []byte {
	l := []api.Frame{{Kind: startKind, Payload: plainNumber(r.End)}}
	now := 0
	for at := range 601 {
		add := func(kind int, payload []byte) {
			l = append(l, api.Frame{Kind: kind, Payload: join(plainNumber(at-now), payload)})
			now = at
		}
		for i, x := range r.Settings {
			if x.At == at {
				add(settingKind, plainSetting(r.Settings, i))
			}
		}
		for _, x := range r.Events {
			if x.At == at {
				add(eventKind, plainNumber(int(x.Kind)))
			}
		}
		for i, x := range r.Samples {
			if x.At == at {
				add(sampleKind, plainSample(r.Samples, i))
			}
		}
	}
	return logOf(append(l, api.Frame{Kind: endKind, Payload: plainNumber(len(l) - 1)})...)
}

// P6.6: runs that are not valid are neither written nor read.
func TestBadRuns(t *testing.T) {
	if b := plainLog(run()); !bytes.Equal(b, writeLog(t, run())) {
		t.Error(b)
	}
	for name, r := range badRuns() {
		if b, e := record.WriteLog(r); len(b) != 0 || e != api.ErrArg {
			t.Error("WriteLog", name, b, e)
		}
		if x, at, e := record.ReadLog(plainLog(r)); !sameRun(x, api.PullRun{}) || at != 0 || e != api.ErrArg {
			t.Error("ReadLog", name, x, at, e)
		}
	}
	for _, ch := range []func(r *api.PullRun){
		func(r *api.PullRun) { r.Settings[1].At = 0 }, func(r *api.PullRun) { r.Samples[1].At = 0 }, func(r *api.PullRun) { r.Events[1].At = 299 },
		func(r *api.PullRun) { r.Samples[0].Seen = span(5, 4) }, func(r *api.PullRun) { r.End = -1 },
	} {
		r := run()
		ch(&r)
		if b, e := record.WriteLog(r); len(b) != 0 || e != api.ErrArg {
			t.Error("WriteLog", r, b, e)
		}
	}
}

// anyRun returns a run that is valid, with many entries at the same times.
func anyRun(r *rand.Rand) api.PullRun {
	x := api.PullRun{End: 1 + r.Intn(100000)>>r.Intn(17)}
	times := func(most, last int) []int {
		var l []int
		for range r.Intn(most + 1) {
			l = append(l, r.Intn(last+1))
		}
		slices.Sort(l)
		return l
	}
	for i, at := range slices.Compact(append([]int{0}, times(59, x.End-1)...)) {
		s := api.PullSetting{At: at, Phase: api.Phase(1 + r.Intn(5))}
		for g := range s.Values {
			s.Values[g] = r.Intn(1000001) >> r.Intn(21)
			if i > 0 && r.Intn(2) == 0 {
				s.Values[g] = x.Settings[i-1].Values[g]
			}
		}
		x.Settings = append(x.Settings, s)
	}
	for _, at := range slices.Compact(times(100, x.End)) {
		low := r.Intn(1000001)
		x.Samples = append(x.Samples, api.Sample{At: at, Seen: span(low, low+r.Intn(1000001-low))})
	}
	for _, at := range times(20, x.End) {
		x.Events = append(x.Events, api.Happened{At: at, Kind: api.Happening(1 + r.Intn(5))})
	}
	return x
}

// P6.6, P6.10: runs are read as what they were, up to their last byte.
func TestLogsThereAndBack(t *testing.T) {
	r := dice()
	for range 1000 {
		x := anyRun(r)
		if e := pull.CheckRun(x); e != api.OK {
			t.Fatal(x, e)
		}
		b := writeLog(t, x)
		if y, at, e := record.ReadLog(b); !sameRun(x, y) || at != 0 || e != api.OK {
			t.Error(x, y, at, e)
		}
		if x.End <= 600 && !bytes.Equal(b, plainLog(x)) {
			t.Error(x, b)
		}
		for range 20 {
			cut := 4 + r.Intn(len(b)-4)
			if _, _, e := record.ReadLog(b[:cut]); e != api.ErrCut {
				t.Error("a beginning", x, cut, e)
			}
		}
		wantLogError(t, append(b, byte(r.Intn(256))), len(b), api.ErrForm)
	}
}

// P6.6: the longest log can be read.
func TestLongestLog(t *testing.T) {
	x := api.PullRun{End: 100000}
	for i := range 60 {
		value := 1000000 * ((i + 1) % 2)
		x.Settings = append(x.Settings, api.PullSetting{At: 1690 * i, Phase: api.PhaseBody, Values: [api.Gauges]int{value, value, value, value, value, value}})
	}
	for i := range 100 {
		x.Samples = append(x.Samples, api.Sample{At: 1010 * i, Seen: span(0, 1000000)})
	}
	for range 20 {
		x.Events = append(x.Events, api.Happened{At: 100000, Kind: api.LeakShut})
	}
	if y, at, e := record.ReadLog(writeLog(t, x)); !sameRun(x, y) || at != 0 || e != api.OK {
		t.Error(y, at, e)
	}
}
