package explore

import (
	"slices"
	"strings"

	"weave/api"
	"weave/run"
)

// state is what runs come to, with the first way to it that was found.
type state struct {
	machine *run.Machine
	show    string
	going   int         // the threads that have begun and have not ended
	failed  bool        // whether a thread has failed
	moves   []api.Event // what those threads that are Ready do next
	from    *state      // nil at the beginning
	by      int         // the thread that led to it from there
	next    *state      // the one that was found next
}

// behind is the state behind an event.
func (s *state) behind(e api.Event, m *run.Machine, show string) *state {
	after := &state{machine: m, show: show, going: s.going, failed: s.failed, from: s, by: e.Thread}
	switch e.Kind {
	case api.Spawn:
		after.going++
	case api.End:
		after.going--
	case api.Fail:
		after.going--
		after.failed = true
	}
	return after
}

func (s *state) isEnd() bool { return len(s.moves) == 0 }

// outcome tells an end by what threads share.
func (s *state) outcome(p api.Program) string {
	shared := len(p.Vars) + len(p.Flags)
	parts := strings.SplitN(s.show, "\n", shared+1)[:shared]
	if s.going > 0 {
		parts = append(parts, "stuck")
	}
	return strings.Join(parts, " ")
}

// rivals is two threads that go to a variable at once, or nil.
func (s *state) rivals(x int) []int {
	for i, a := range s.moves {
		for _, b := range s.moves[i+1:] {
			if clash(a, b, x) {
				return []int{a.Thread, b.Thread}
			}
		}
	}
	return nil
}

// clash tells whether two events are accesses of a variable, and not only to load it.
func clash(a, b api.Event, x int) bool {
	return isAccess(a, x) && isAccess(b, x) && (a.Kind == api.Write || b.Kind == api.Write)
}

func isAccess(e api.Event, x int) bool {
	return e.Obj == x && (e.Kind == api.Read || e.Kind == api.Write)
}

// schedule is the way to it from the beginning.
func (s *state) schedule() []int {
	var steps []int
	for ; s.from != nil; s = s.from {
		steps = append(steps, s.by)
	}
	slices.Reverse(steps)
	return steps
}
