package stamp

import "weave/api"

// Flow hands stamps on from event to event, as events lead to one another (chapter 3): what went out by a door is before
// all that comes in by it later on.
type Flow map[door]Stamp

// door is where events lead to later ones.
type door struct {
	kind int
	of   int // the thread, lock or flag
}

const (
	thread  = iota // out by it goes all that a thread does
	unlocks        // of a lock
	puts           // of a flag
	spawns         // of a thread
)

// Next takes the next event. Its stamp has of each thread how many events that count are the event itself, or before it.
func (f Flow) Next(e api.Event, counts bool) Stamp {
	own, spawned := door{thread, e.Thread}, door{spawns, e.Thread}
	s := f[own].Join(f[spawned])
	delete(f, spawned) // the thread's own door has it from now on
	if d, ok := in(e); ok {
		s = s.Join(f[d])
	}
	if counts {
		s = s.Tick(e.Thread)
	}
	f.put(own, s)
	if d, ok := out(e); ok {
		f.put(d, f[d].Join(s))
	}
	return s
}

// put leaves away what tells nothing, so that what does not count takes up no room.
func (f Flow) put(d door, s Stamp) {
	if len(s) > 0 {
		f[d] = s
	}
}

// in is the door by which an event of its kind comes.
func in(e api.Event) (door, bool) {
	switch e.Kind {
	case api.Lock:
		return door{unlocks, e.Obj}, true
	case api.Get:
		return door{puts, e.Obj}, true
	case api.Join:
		return door{thread, e.Obj}, true
	}
	return door{}, false
}

// out is the door by which an event of its kind goes.
func out(e api.Event) (door, bool) {
	switch e.Kind {
	case api.Unlock:
		return door{unlocks, e.Obj}, true
	case api.Put:
		return door{puts, e.Obj}, true
	case api.Spawn:
		return door{spawns, e.Obj}, true
	}
	return door{}, false
}
