package slice

import (
	"iter"

	"boule/api"
)

// choice chooses what is not known exactly in a groove.
type choice func(groove int) int

// always chooses the same in each groove.
func always(n int) choice { return func(int) int { return n } }

// course is one way in which the wire can cut.
type course struct {
	diameter     int // of the wire at the beginning
	wear, slurry choice
}

// chosen returns the course that a cutting describes.
func chosen(c api.Cutting) course {
	return course{
		diameter: c.Diameter,
		wear:     func(groove int) int { return c.Wear[groove] },
		slurry:   func(groove int) int { return c.Slurry[groove] },
	}
}

// wide returns the course in which the wire is as thick as it can be in each
// groove, and each cut as wide as it can be.
func (s saw) wide() course {
	return course{s.Diameter.High, always(s.Wear.Low), always(s.Slurry.High)}
}

// narrow returns the course in which the wire is as thin as it can be in each
// groove, and each cut as narrow as it can be.
func (s saw) narrow() course {
	return course{s.Diameter.Low, always(s.Wear.High), always(s.Slurry.Low)}
}

// worn returns the diameter of a wire that has become thinner.
func worn(diameter, wear int) int { return max(0, diameter-wear) }

// cut is what is done in a groove.
type cut struct {
	wire, left   int  // the diameter of the wire there, and behind it
	kerf, behind int  // what the cut takes, and what is left up to the next place
	last         bool // no other groove is used behind it
}

// cuts yields the cuts of a course, from the top on.
func (s saw) cuts(c course) iter.Seq[cut] {
	return func(yield func(cut) bool) {
		wire, used := c.diameter, s.used()
		for groove := range used {
			room := s.place(groove+1) - s.place(groove)
			kerf := min(room, wire+c.slurry(groove))
			x := cut{
				wire: wire, left: worn(wire, c.wear(groove)),
				kerf: kerf, behind: room - kerf,
				last: groove+1 == used,
			}
			if !yield(x) {
				return
			}
			wire = x.left
		}
	}
}

// outcome is what a course makes of a block, and of the wire.
type outcome struct {
	api.Parts
	kerf   int // what all cuts take
	wire   int // the diameter behind the last used groove
	breaks bool
}

// ends returns the length of both ends.
func (x outcome) ends() int { return x.Top + x.Bottom }

// follow carries out a course.
func (s saw) follow(c course) outcome {
	x := outcome{wire: c.diameter}
	x.Top = s.place(0)
	for y := range s.cuts(c) {
		x.Kerfs = append(x.Kerfs, y.kerf)
		if y.last {
			x.Bottom = y.behind
		} else {
			x.Slices = append(x.Slices, y.behind)
		}
		x.kerf += y.kerf
		x.wire = y.left
		x.breaks = x.breaks || y.wire < s.Least
	}
	return x
}
