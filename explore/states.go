package explore

import (
	"errors"
	"iter"

	"weave/api"
	"weave/run"
)

// mostStates is the most that may be asked for.
const mostStates = 20000

var (
	errRange = errors.New("so many states cannot be asked for")
	errMany  = errors.New("there are more states")
)

// number tells an error by its number.
func number(err error) api.Errno {
	switch {
	case errors.Is(err, errRange):
		return api.ErrRange
	case errors.Is(err, errMany):
		return api.ErrMany
	}
	return api.OK
}

// states goes through the states of a program, each once, those of fewer steps first. An error comes as the last one, if
// there are more than most.
func states(p api.Program, most int) iter.Seq2[*state, error] {
	return func(yield func(*state, error) bool) {
		if most < 1 || most > mostStates {
			yield(nil, errRange)
			return
		}
		f := begin(p)
		for s := f.first; s != nil; s = s.next {
			f.goOn(s)
			if len(f.known) > most {
				yield(nil, errMany)
				return
			}
			if !yield(s, nil) {
				return
			}
		}
	}
}

// found is the states that were come to up to now, as a list that grows at its end while it is gone through.
type found struct {
	first, last *state
	known       map[string]struct{} // their Shows
}

func begin(p api.Program) *found {
	m := run.New(p)
	s := &state{machine: m, show: m.Show(), going: min(len(p.Threads), 1)}
	return &found{s, s, map[string]struct{}{s.show: {}}}
}

// goOn lets each thread that can go on from a state do so.
func (f *found) goOn(s *state) {
	for _, t := range s.machine.Ready() {
		m := s.machine.Copy()
		e, _ := m.Step(t)
		s.moves = append(s.moves, e)
		f.add(s, e, m)
	}
	s.machine = nil // it is needed no more, and takes up more than all else
}

// add adds the state to which an event led, if it is new.
func (f *found) add(from *state, e api.Event, m *run.Machine) {
	show := m.Show()
	if _, ok := f.known[show]; ok {
		return
	}
	f.known[show] = struct{}{}
	f.last.next = from.behind(e, m, show)
	f.last = f.last.next
}
