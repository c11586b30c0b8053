package record

import (
	"cmp"
	"slices"

	"boule/api"
	"boule/pull"
)

const logName = "PUL1"

// entry is a setting, event or sample: when it is, the kind of its frame, and
// what is written of it behind the time.
type entry struct {
	at, kind int
	write    func(*writer)
}

func settingEntry(x, before api.PullSetting) entry {
	return entry{x.At, settingFrame, func(w *writer) {
		w.number(int(x.Phase))
		for g, value := range x.Values {
			w.signed(value - before.Values[g])
		}
	}}
}

func eventEntry(x api.Happened) entry {
	return entry{x.At, eventFrame, func(w *writer) { w.number(int(x.Kind)) }}
}

func sampleEntry(x, before api.Sample) entry {
	return entry{x.At, sampleFrame, func(w *writer) {
		w.signed(x.Seen.Low - before.Seen.Low)
		w.number(x.Seen.High - x.Seen.Low)
	}}
}

// entries returns the entries of a run, in the order in which they are written.
func entries(r api.PullRun) []entry {
	var l []entry
	var setting api.PullSetting
	for _, x := range r.Settings {
		l = append(l, settingEntry(x, setting))
		setting = x
	}
	for _, x := range r.Events {
		l = append(l, eventEntry(x))
	}
	var sample api.Sample
	for _, x := range r.Samples {
		l = append(l, sampleEntry(x, sample))
		sample = x
	}
	slices.SortStableFunc(l, func(a, b entry) int {
		return cmp.Or(cmp.Compare(a.at, b.at), cmp.Compare(a.kind, b.kind))
	})
	return l
}

// single writes a frame with a single number.
func (w *writer) single(kind, n int) {
	var payload writer
	payload.number(n)
	w.frame(kind, payload.Bytes())
}

// WriteLog writes a run.
func WriteLog(r api.PullRun) ([]byte, api.Errno) {
	if e := pull.CheckRun(r); e != api.OK {
		return nil, e
	}
	var w writer
	w.WriteString(logName)
	w.single(endFrame, r.End)
	l := entries(r)
	before := 0
	for _, x := range l {
		var payload writer
		payload.number(x.at - before)
		x.write(&payload)
		w.frame(x.kind, payload.Bytes())
		before = x.at
	}
	w.single(countFrame, len(l))
	return w.Bytes(), api.OK
}

// log is what is read of a log: the run, the number of its entries, and when
// the last one of them is, and of which kind. Whatever it says, it is too short
// for sums that would not fit an int.
type log struct {
	api.PullRun
	count, at, kind int
}

// read reads the frames of a log.
func (l *log) read(f *file) {
	f.nextFrame(func(kind int, r *reader) {
		demand(api.ErrForm, kind == endFrame)
		l.End = r.number()
	})
	for ended := false; !ended; {
		f.nextFrame(func(kind int, r *reader) {
			ended = kind == countFrame
			if ended {
				demand(api.ErrForm, r.number() == l.count)
				return
			}
			l.entry(kind, r)
		})
	}
}

// entry reads an entry.
func (l *log) entry(kind int, r *reader) {
	later := r.number()
	demand(api.ErrForm, l.count == 0 || later > 0 || kind > l.kind || kind == l.kind && kind == eventFrame)
	l.count++
	l.at += later
	l.kind = kind
	switch kind {
	case settingFrame:
		l.setting(r)
	case eventFrame:
		l.Events = append(l.Events, api.Happened{At: l.at, Kind: api.Happening(r.number())})
	case sampleFrame:
		l.sample(r)
	default:
		demand(api.ErrForm, false)
	}
}

// setting reads a setting behind its time.
func (l *log) setting(r *reader) {
	var x api.PullSetting
	if n := len(l.Settings); n > 0 {
		x = l.Settings[n-1]
	}
	x.At = l.at
	x.Phase = api.Phase(r.number())
	for g := range x.Values {
		x.Values[g] += r.signed()
	}
	l.Settings = append(l.Settings, x)
}

// sample reads a sample behind its time.
func (l *log) sample(r *reader) {
	low := r.signed()
	if n := len(l.Samples); n > 0 {
		low += l.Samples[n-1].Seen.Low
	}
	l.Samples = append(l.Samples, api.Sample{At: l.at, Seen: api.Range{Low: low, High: low + r.number()}})
}

// ReadLog reads a run.
func ReadLog(b []byte) (r api.PullRun, at int, e api.Errno) {
	var l log
	at, e = readFile(b, logName, l.read)
	if e != api.OK {
		return api.PullRun{}, at, e
	}
	if e := pull.CheckRun(l.PullRun); e != api.OK {
		return api.PullRun{}, 0, e
	}
	return l.PullRun, at, api.OK
}
