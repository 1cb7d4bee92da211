// Package order tells what happens before what: see doc/03-order.md.
package order

import (
	"cmp"
	"slices"

	"weave/api"
)

// span is how many events Races looks at together for what they race with. It bounds the sets: with those of all events
// at once a list of many threads, each with a set of its own, would take up room by the square of its length.
const span = 1 << 14

// Before tells whether an event is before another one (D1).
func Before(l []api.Event, i int, j int) bool {
	if i < 0 || i >= j || j >= len(l) {
		return false
	}
	for n, past := range pasts(l[i:j+1], 1) {
		if n == j-i {
			return past.has(0)
		}
	}
	return false
}

// Races tells all accesses that race (D2).
func Races(l []api.Event) []api.Pair {
	var races []api.Pair
	for from := 0; from < len(l); from += span {
		races = append(races, racesFrom(l, from)...)
	}
	slices.SortFunc(races, func(p, q api.Pair) int {
		return cmp.Or(cmp.Compare(p.J, q.J), cmp.Compare(p.I, q.I))
	})
	return races
}

// access is a kind of access, and the variable.
type access struct {
	kind, obj int
}

// racesFrom tells the races whose first event is one of the span that begins there.
func racesFrom(l []api.Event, from int) []api.Pair {
	var races []api.Pair
	rivals := map[access]set{} // with which such an access races, if they are not before it; those of its own thread are
	for j, past := range pasts(l[from:], span) {
		e := l[from+j]
		for i := range rivals[access{e.Kind, e.Obj}].without(past) {
			races = append(races, api.Pair{I: from + i, J: from + j})
		}
		if j >= span {
			continue
		}
		for _, a := range rivalOf(e) {
			rivals[a] = rivals[a].with(j)
		}
	}
	return races
}

// rivalOf tells with which accesses behind it an event may race.
func rivalOf(e api.Event) []access {
	switch e.Kind {
	case api.Read:
		return []access{{api.Write, e.Obj}}
	case api.Write:
		return []access{{api.Read, e.Obj}, {api.Write, e.Obj}}
	}
	return nil
}
