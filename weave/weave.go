// Package weave answers lines about programs: see doc/08-weave.md.
package weave

import (
	"strconv"

	"weave/api"
	"weave/code"
)

const mostWorkers = 16

// Do answers lines about a program (K1).
func Do(program string, lines []string) ([]string, api.Errno, int) {
	p, errno, line := code.Parse(program)
	if errno != api.OK {
		return nil, errno, line
	}
	s := about(p)
	var answers []string
	for _, line := range lines {
		answers = append(answers, s.answer(line))
	}
	return answers, api.OK, 0
}

// Many answers a line about many programs, by several goroutines (K2).
func Many(programs []string, line string, workers int) ([]string, api.Errno) {
	if workers < 1 || workers > mostWorkers {
		return nil, api.ErrRange
	}
	return share(programs, workers, func(program string) string { return alone(program, line) }), api.OK
}

// alone answers one line about a program, or tells why it cannot be read.
func alone(program, line string) string {
	answers, errno, at := Do(program, []string{line})
	if errno != api.OK {
		return refuse(errno).Error() + " " + strconv.Itoa(at)
	}
	return answers[0]
}
