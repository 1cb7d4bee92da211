// Package code reads programs: see doc/01-code.md.
package code

import "weave/api"

const (
	longestText = 3000 // bytes
	longestName = 8    // bytes
	mostNames   = 4    // of a kind
	mostCode    = 24   // instructions of a thread
)

// Parse tells a program (A2).
func Parse(s string) (api.Program, api.Errno, int) {
	if len(s) > longestText {
		return api.Program{}, api.ErrLong, 0
	}
	r := newReader()
	if f := r.read(s); f.errno != api.OK {
		return api.Program{}, f.errno, f.line
	}
	return r.program, api.OK, 0
}

// Print writes a program (A3).
func Print(p api.Program) string {
	w := writer{Program: p}
	w.headings()
	for _, t := range p.Threads {
		w.thread(t)
	}
	return w.String()
}
