// Package explore goes through all runs: see doc/07-explore.md.
//
// This is its face alone: its calls answer zero values for now.
package explore

import "weave/api"

// All tells what all runs do (J1).
func All(p api.Program, most int) (api.Report, api.Errno) {
	return api.Report{}, api.OK
}

// Reach tells how one comes to an outcome (J2).
func Reach(p api.Program, outcome string, most int) ([]int, bool, api.Errno) {
	return nil, false, api.OK
}

// Witness tells how a variable is raced for (J2).
func Witness(p api.Program, x int, most int) ([]int, bool, api.Errno) {
	return nil, false, api.OK
}
