// Package fast finds first races: see doc/06-fast.md.
//
// This is its face alone: its calls answer zero values for now.
package fast

import "weave/api"

// Detector sees events, one by one. Make it by New.
type Detector struct{}

// New makes a detector (H1).
func New() *Detector { return &Detector{} }

// See tells whether the next event is a first race (H1).
func (d *Detector) See(e api.Event) bool { return false }

// Racy tells which variables had one (H1).
func (d *Detector) Racy() []int { return nil }

// First tells a variable's first race (H2).
func First(l []api.Event, obj int) int { return 0 }
