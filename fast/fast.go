// Package fast finds first races: see doc/06-fast.md.
package fast

import (
	"maps"
	"slices"

	"weave/api"
	"weave/stamp"
)

// Detector sees events, one by one. Make it by New.
type Detector struct {
	flow  stamp.Flow
	kept  variables        // those that had no race up to now
	raced map[int]struct{} // the others: nothing more is kept of them (H3)
}

// New makes a detector (H1).
func New() *Detector {
	return &Detector{flow: stamp.Flow{}, kept: variables{}, raced: map[int]struct{}{}}
}

// See tells whether the next event is a first race (H1).
func (d *Detector) See(e api.Event) bool {
	counts := isAccess(e) && !d.hadRace(e.Obj)
	s := d.flow.Next(e, counts)
	if !counts || d.kept.take(e, s) {
		return false
	}
	delete(d.kept, e.Obj)
	d.raced[e.Obj] = struct{}{}
	return true
}

// Racy tells which variables had one (H1).
func (d *Detector) Racy() []int {
	return slices.Sorted(maps.Keys(d.raced))
}

// First tells a variable's first race (H2).
func First(l []api.Event, obj int) int {
	d := New()
	for n, e := range l {
		if isAccess(e) && e.Obj != obj {
			e.Kind = api.Local // all that counts of it is its thread
		}
		if d.See(e) {
			return n
		}
	}
	return -1
}

func (d *Detector) hadRace(obj int) bool {
	_, ok := d.raced[obj]
	return ok
}

func isAccess(e api.Event) bool {
	return e.Kind == api.Read || e.Kind == api.Write
}
