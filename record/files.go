package record

import (
	"bytes"

	"boule/api"
	"boule/check"
)

// file is what is read of a log or a map: its name, and then its frames.
type file struct {
	reader
	start int // the place of what is being read
}

// readFile reads all of some bytes, which must begin with a name. The frames
// are read by a function. With an error it returns the place of what is wrong,
// otherwise 0.
func readFile(b []byte, name string, frames func(*file)) (at int, e api.Errno) {
	f := file{reader: reader{b, len(name)}}
	e = check.First(
		short(b),
		check.Unless(api.ErrForm, func() bool { return bytes.HasPrefix(b, []byte(name)) }),
		func() api.Errno {
			return caught(func() {
				frames(&f)
				f.end()
			})
		},
	)
	if e != api.OK {
		return f.start, e
	}
	return 0, api.OK
}

// nextFrame reads the next frame, whose payload a function must read to its end.
// Whatever is wrong in there is a wrong form of the frame.
func (f *file) nextFrame(payload func(kind int, r *reader)) {
	f.start = f.at
	x := f.frame()
	r := reader{bytes: x.Payload}
	e := caught(func() { payload(x.Kind, &r) })
	demand(api.ErrForm, e == api.OK && r.at == len(r.bytes))
}

// end demands that no bytes are left.
func (f *file) end() {
	f.start = f.at
	demand(api.ErrForm, f.at == len(f.bytes))
}
