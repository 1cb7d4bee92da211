// Package weave answers lines about programs: see doc/08-weave.md.
//
// This is its face alone: its calls answer zero values for now.
package weave

import "weave/api"

// Do answers lines about a program (K1).
func Do(program string, lines []string) ([]string, api.Errno, int) {
	return nil, api.OK, 0
}

// Many answers a line about many programs, by several goroutines (K2).
func Many(programs []string, line string, workers int) ([]string, api.Errno) {
	return nil, api.OK
}
