package fast

import (
	"weave/api"
	"weave/stamp"
)

// epoch is an access: its thread, and how many accesses that one had by then. The one of no accesses is before all.
type epoch struct {
	thread, count int
}

// before tells whether the access is before the event of a stamp, or is that event.
func (a epoch) before(s stamp.Stamp) bool {
	return a.count <= s.Of(a.thread)
}

// readers is reads, by their threads.
type readers map[int]int

func (r readers) before(s stamp.Stamp) bool {
	for thread, count := range r {
		if !(epoch{thread, count}).before(s) {
			return false
		}
	}
	return true
}

// forget leaves away those that are before the event of a stamp.
func (r readers) forget(s stamp.Stamp) {
	for thread, count := range r {
		if (epoch{thread, count}).before(s) {
			delete(r, thread)
		}
	}
}

// variable is what may race with later accesses of a variable without a race (H3): all others are before one of these.
type variable struct {
	write epoch   // the last one
	read  epoch   // the last one behind it
	reads readers // other ones behind it: none, as long as each is before the next one
	room  int     // how many of these there may be, until those that need not be kept are looked for
}

// addRead keeps a read, by its stamp.
func (v *variable) addRead(read epoch, s stamp.Stamp) {
	if !v.read.before(s) {
		v.keep(v.read)
	}
	v.read = read
	if len(v.reads) > v.room {
		v.reads.forget(s)
		v.room = 2 * len(v.reads) // so that it is looked at each of them a few times alone, however many there are
	}
}

func (v *variable) keep(read epoch) {
	if v.reads == nil {
		v.reads = readers{}
	}
	v.reads[read.thread] = read.count
}

// variables is what is kept of each variable that was accessed.
type variables map[int]variable

// take takes in an access, by its stamp, unless it races with what is kept.
func (k variables) take(e api.Event, s stamp.Stamp) bool {
	v := k[e.Obj]
	own := epoch{e.Thread, s.Of(e.Thread)}
	if !v.write.before(s) {
		return false
	}
	if e.Kind == api.Read {
		v.addRead(own, s)
		k[e.Obj] = v
		return true
	}
	if !v.read.before(s) || !v.reads.before(s) {
		return false
	}
	k[e.Obj] = variable{write: own}
	return true
}
