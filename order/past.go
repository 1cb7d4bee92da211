package order

import (
	"iter"

	"weave/api"
)

// door is where events lead to later ones: what goes out by it is before all that comes in by it later on.
type door struct {
	kind int
	of   int // the thread, lock or flag
}

const (
	thread  = iota // out by it goes all that a thread does
	unlocks        // of a lock
	puts           // of a flag
	spawns         // of a thread
)

// in is the doors by which an event comes, beside its own thread's.
func in(e api.Event) []door {
	doors := []door{{spawns, e.Thread}}
	switch e.Kind {
	case api.Lock:
		doors = append(doors, door{unlocks, e.Obj})
	case api.Get:
		doors = append(doors, door{puts, e.Obj})
	case api.Join:
		doors = append(doors, door{thread, e.Obj})
	}
	return doors
}

// out is the doors by which an event goes, beside its own thread's.
func out(e api.Event) []door {
	switch e.Kind {
	case api.Unlock:
		return []door{{unlocks, e.Obj}}
	case api.Put:
		return []door{{puts, e.Obj}}
	case api.Spawn:
		return []door{{spawns, e.Obj}}
	}
	return nil
}

// pasts ranges over the events of a list: the number of each, and the set of those before it. Of the latter it keeps
// the first ones alone, as many as it is told. A set holds until the next event comes, as it is the thread's own one,
// which grows from event to event.
func pasts(l []api.Event, kept int) iter.Seq2[int, set] {
	return func(yield func(int, set) bool) {
		gone := map[door]set{}
		for n, e := range l {
			own := door{thread, e.Thread}
			past := gone[own]
			for _, d := range in(e) {
				past = past.join(gone[d])
			}
			if !yield(n, past) {
				return
			}
			if n < kept {
				past = past.with(n)
			}
			gone[own] = past
			for _, d := range out(e) {
				gone[d] = gone[d].join(past)
			}
		}
	}
}
