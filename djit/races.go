package djit

import (
	"weave/api"
	"weave/stamp"
)

// span is how many threads Racy counts the accesses of at a time. It bounds the stamps: with all threads at once a list
// of many of them, each with a stamp of its own, would take up room by the square of its length.
const span = 1 << 14

// access is a kind of access, and the variable.
type access struct {
	kind, obj int
}

func isAccess(e api.Event) bool {
	return e.Kind == api.Read || e.Kind == api.Write
}

// numbered numbers the threads that have accesses, in the order of their first ones.
func numbered(l []api.Event) map[int]int {
	numbers := map[int]int{}
	for _, e := range l {
		if _, ok := numbers[e.Thread]; !ok && isAccess(e) {
			numbers[e.Thread] = len(numbers)
		}
	}
	return numbers
}

// markRaces marks the accesses that race with one ahead of them that counts.
func markRaces(racy []bool, l []api.Event, counts func(api.Event) bool) {
	flow := stamp.Flow{}
	last := map[access]stamp.Stamp{} // of each thread the number of its last such access that counts
	for j, e := range l {
		s := flow.Next(e, counts(e))
		for _, a := range rivals(e) {
			racy[j] = racy[j] || !last[a].Leq(s)
		}
		if !counts(e) {
			continue
		}
		own := access{e.Kind, e.Obj}
		if last[own] == nil {
			last[own] = stamp.Stamp{}
		}
		last[own].Put(e.Thread, s.Of(e.Thread))
	}
}

// rivals tells with which accesses ahead of it an event races, if they are not before it. (Those of its own thread are.)
func rivals(e api.Event) []access {
	switch e.Kind {
	case api.Read:
		return []access{{api.Write, e.Obj}}
	case api.Write:
		return []access{{api.Read, e.Obj}, {api.Write, e.Obj}}
	}
	return nil
}
