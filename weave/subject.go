package weave

import (
	"slices"
	"strconv"
	"strings"
	"sync"

	"weave/api"
	"weave/explore"
	"weave/fast"
	"weave/order"
	"weave/run"
)

const (
	mostStates = 20000
	mostParts  = 3 // of a line, with its word
)

// subject is a program that lines are about.
type subject struct {
	program api.Program
	report  func() (api.Report, error) // of all runs: they are gone through by the first line that asks for it
	ways    []func() (string, error)   // for each variable, how it is raced for: likewise
}

func about(p api.Program) *subject {
	s := &subject{program: p}
	s.report = sync.OnceValues(func() (api.Report, error) { return orRefusal(explore.All(p, mostStates)) })
	for x := range p.Vars {
		s.ways = append(s.ways, sync.OnceValues(func() (string, error) { return s.way(x) }))
	}
	return s
}

func (s *subject) answer(line string) string {
	text, err := s.ask(strings.SplitN(line, " ", mostParts+1))
	if err != nil {
		return err.Error()
	}
	return text
}

// ask answers a line by its parts, of which there is one at least.
func (s *subject) ask(parts []string) (string, error) {
	if slices.Contains(parts, "") {
		return "", notALine
	}
	switch word := parts[0]; len(parts) {
	case 1:
		return s.askAll(word)
	case 2:
		if word == "HOW" {
			return s.how(parts[1])
		}
		return s.askRun(word, parts[1])
	case 3:
		if word == "FIRST" {
			return s.first(parts[1], parts[2])
		}
	}
	return "", notALine
}

// askAll answers what is asked about all runs.
func (s *subject) askAll(word string) (string, error) {
	switch word {
	case "OUTCOMES":
		return s.tell(outcomesText)
	case "STATES":
		return s.tell(statesText)
	case "RACY":
		return s.tell(s.racyText)
	}
	return "", notALine
}

func (s *subject) tell(text func(api.Report) string) (string, error) {
	r, err := s.report()
	if err != nil {
		return "", err
	}
	return text(r), nil
}

func (s *subject) racyText(r api.Report) string {
	return list(r.Racy, " ", func(x int) string { return s.program.Vars[x] })
}

// askRun answers what is asked about one run.
func (s *subject) askRun(word, steps string) (string, error) {
	schedule, err := readSchedule(steps)
	if err != nil {
		return "", err
	}
	events, show := run.Run(s.program, schedule)
	switch word {
	case "SHOW":
		return strings.ReplaceAll(show, "\n", ";"), nil
	case "EVENTS":
		return list(events, " ", eventText), nil
	case "RACES":
		return list(order.Races(events), " ", raceText), nil
	}
	return "", notALine
}

func (s *subject) first(name, steps string) (string, error) {
	schedule, err := readSchedule(steps)
	if err != nil {
		return "", err
	}
	x, err := s.variable(name)
	if err != nil {
		return "", err
	}
	events, _ := run.Run(s.program, schedule)
	return strconv.Itoa(fast.First(events, x)), nil
}

func (s *subject) how(name string) (string, error) {
	x, err := s.variable(name)
	if err != nil {
		return "", err
	}
	return s.ways[x]()
}

// way asks for a schedule only if there is one, as that goes through all runs again.
func (s *subject) way(x int) (string, error) {
	r, err := s.report()
	if err != nil {
		return "", err
	}
	if !slices.Contains(r.Racy, x) {
		return "never", nil
	}
	schedule, _, errno := explore.Witness(s.program, x, mostStates)
	return orRefusal(list(schedule, ",", strconv.Itoa), errno)
}

func (s *subject) variable(name string) (int, error) {
	x := slices.Index(s.program.Vars, name)
	if x < 0 {
		return x, noVariable
	}
	return x, nil
}
