package pull_test

import (
	"testing"

	"boule/api"
	"boule/pull"
)

// P4.3, and example 6.
func TestStop(t *testing.T) {
	const lost, open, shut, off, on = api.LostStructure, api.LeakOpen, api.LeakShut, api.PowerOff, api.PowerOn
	for _, c := range []struct {
		name   string
		hold   int
		events []api.Happened
		at     int
		kind   api.Happening
	}{
		{"nothing happened", 0, nil, -1, 0},
		{"longer than it holds", 10, []api.Happened{event(50, off), event(61, on)}, 60, off},
		{"as long as it holds", 11, []api.Happened{event(50, off), event(61, on)}, -1, 0},
		{"no time at all", 0, []api.Happened{event(50, off), event(50, on)}, -1, 0},
		{"a second", 0, []api.Happened{event(50, off), event(51, on)}, 50, off},
		{"off is off", 10, []api.Happened{event(50, off), event(55, off), event(61, on)}, 60, off},
		{"it was off all along", 9, []api.Happened{event(50, off), event(55, off), event(60, on)}, 59, off},
		{"on is on", 10, []api.Happened{event(40, on), event(50, off), event(55, on), event(60, on), event(61, on)}, -1, 0},
		{"two stretches that touch", 10, []api.Happened{event(50, off), event(55, on), event(55, off), event(65, on)}, -1, 0},
		{"the second stretch", 9, []api.Happened{event(50, off), event(55, on), event(55, off), event(65, on)}, 64, off},
		{"the first of two", 3, []api.Happened{event(50, off), event(55, on), event(60, off), event(65, on)}, 53, off},
		{"to the end", 4, []api.Happened{event(195, off)}, 199, off},
		{"to the end, but no longer", 5, []api.Happened{event(195, off)}, -1, 0},
		{"at the end", 0, []api.Happened{event(200, off)}, -1, 0},
		{"from the start", 199, []api.Happened{event(0, off)}, 199, off},
		{"the longest hold", 100000, []api.Happened{event(0, off)}, -1, 0},
		{"a lost structure", 10, []api.Happened{event(70, lost), event(80, lost)}, 70, lost},
		{"at the start", 10, []api.Happened{event(0, lost)}, 0, lost},
		{"at the very end", 10, []api.Happened{event(200, lost)}, 200, lost},
		{"both at once", 10, []api.Happened{event(50, off), event(60, lost)}, 60, lost},
		{"the power first", 9, []api.Happened{event(50, off), event(60, lost)}, 59, off},
		{"the structure first", 11, []api.Happened{event(50, off), event(60, lost)}, 60, lost},
		{"lost before the power is off", 0, []api.Happened{event(50, lost), event(50, off)}, 50, lost},
		{"lost after the power is off", 0, []api.Happened{event(50, off), event(50, lost)}, 50, lost},
		{"leaks do not stop it", 0, []api.Happened{event(50, open), event(90, shut), event(95, open)}, -1, 0},
		{"leaks have no power", 10, []api.Happened{event(50, off), event(52, open), event(55, on), event(58, shut)}, -1, 0},
	} {
		r, p := two(), soft()
		r.Events, p.Hold = c.events, c.hold
		if at, kind, e := pull.Stop(p, r); at != c.at || kind != c.kind || e != api.OK {
			t.Error(c.name, at, kind, e)
		}
	}
}

// plainStop looks at every pair of events.
func plainStop(p api.Puller, r api.PullRun) (at int, kind api.Happening) {
	at = -1
	on := true
	for i, x := range r.Events {
		if x.Kind == api.LostStructure && (at < 0 || x.At <= at) {
			at, kind = x.At, x.Kind
		}
		if x.Kind == api.PowerOff && on {
			end := r.End
			for _, y := range r.Events[i:] {
				if y.Kind == api.PowerOn {
					end = y.At
					break
				}
			}
			if t := x.At + p.Hold; end > t && (at < 0 || t < at) {
				at, kind = t, x.Kind
			}
		}
		if x.Kind == api.PowerOff || x.Kind == api.PowerOn {
			on = x.Kind == api.PowerOn
		}
	}
	return at, kind
}

// P4.3: any events.
func TestStopOfAnyRun(t *testing.T) {
	r := dice()
	kinds := map[api.Happening]int{}
	for range 5000 {
		run, p := body(30), soft()
		run.Events, p.Hold = anyEvents(r, 20, 30), r.Intn(8)
		at, kind, e := pull.Stop(p, run)
		if want, by := plainStop(p, run); at != want || kind != by || e != api.OK {
			t.Fatal(p.Hold, run.Events, at, kind, e, want, by)
		}
		kinds[kind]++
	}
	if len(kinds) != 3 {
		t.Error("what stopped the runs", kinds)
	}
}
