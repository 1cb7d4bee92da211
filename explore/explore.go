// Package explore goes through all runs: see doc/07-explore.md.
package explore

import (
	"maps"
	"slices"

	"weave/api"
)

// All tells what all runs do (J1).
func All(p api.Program, most int) (api.Report, api.Errno) {
	var r api.Report
	outcomes, racy := map[string]struct{}{}, map[int]struct{}{}
	for s, err := range states(p, most) {
		if err != nil {
			return api.Report{}, number(err)
		}
		r.States++
		r.Failed = r.Failed || s.failed
		if s.isEnd() {
			r.Stuck = r.Stuck || s.going > 0
			outcomes[s.outcome(p)] = struct{}{}
		}
		for x := range p.Vars {
			if s.rivals(x) != nil {
				racy[x] = struct{}{}
			}
		}
	}
	r.Outcomes = slices.Sorted(maps.Keys(outcomes))
	r.Racy = slices.Sorted(maps.Keys(racy))
	return r, api.OK
}

// Reach tells how one comes to an outcome (J2).
func Reach(p api.Program, outcome string, most int) ([]int, bool, api.Errno) {
	s, errno := search(p, most, func(s *state) bool { return s.isEnd() && s.outcome(p) == outcome })
	if s == nil {
		return nil, false, errno
	}
	return s.schedule(), true, api.OK
}

// Witness tells how a variable is raced for (J2).
func Witness(p api.Program, x int, most int) ([]int, bool, api.Errno) {
	s, errno := search(p, most, func(s *state) bool { return s.rivals(x) != nil })
	if s == nil {
		return nil, false, errno
	}
	// Neighbours are in order only if the one leads to the other, and accesses of two threads do not: they race.
	return append(s.schedule(), s.rivals(x)...), true, api.OK
}

// search tells the first state that is wanted, or nil. It goes on behind it, as there may be too many of them.
func search(p api.Program, most int, wanted func(*state) bool) (*state, api.Errno) {
	var found *state
	for s, err := range states(p, most) {
		if err != nil {
			return nil, number(err)
		}
		if found == nil && wanted(s) {
			found = s
		}
	}
	return found, api.OK
}
