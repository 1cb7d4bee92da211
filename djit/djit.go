// Package djit stamps events with vectors: see doc/05-djit.md.
package djit

import (
	"weave/api"
	"weave/stamp"
)

// most is how many threads are stamped at most: as many as a stamp's page holds, so that one page is the answer.
const most = stamp.Page

// Stamps tells how many events of each thread are before each event (F1).
func Stamps(l []api.Event, threads int) [][]int {
	if threads < 0 || threads > most {
		return nil
	}
	var vectors [][]int
	flow := stamp.Flow{}
	for _, e := range l {
		s := flow.Next(e, e.Thread >= 0 && e.Thread < threads)
		vectors = append(vectors, s.Vector())
	}
	return vectors
}

// Racy tells which events race with one ahead of them (F2).
func Racy(l []api.Event) []bool {
	if len(l) == 0 {
		return nil
	}
	racy := make([]bool, len(l))
	numbers := numbered(l)
	for from := 0; from < len(numbers); from += span {
		markRaces(racy, l, func(e api.Event) bool {
			n := numbers[e.Thread]
			return isAccess(e) && n >= from && n < from+span
		})
	}
	return racy
}
