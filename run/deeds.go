package run

import "weave/api"

// step is an instruction that is being done: all that it may look at or change.
type step struct {
	*Machine
	*thread
	api.Instr
	api.Event
}

// deeds is what instructions do. They are called only where nothing holds them up, and find their thread at the
// instruction behind them.
func deeds() map[string]func(*step) {
	return map[string]func(*step){
		"set":    func(s *step) { s.assign(s.value(s.A)) },
		"add":    func(s *step) { s.assign(s.value(s.A) + s.value(s.B)) },
		"sub":    func(s *step) { s.assign(s.value(s.A) - s.value(s.B)) },
		"mul":    func(s *step) { s.assign(s.value(s.A) * s.value(s.B)) },
		"load":   func(s *step) { s.fetch(api.Read, &s.vars) },
		"store":  func(s *step) { s.keep(api.Write, &s.vars) },
		"get":    func(s *step) { s.fetch(api.Get, &s.flags) },
		"put":    func(s *step) { s.keep(api.Put, &s.flags) },
		"lock":   (*step).acquire,
		"unlock": (*step).release,
		"spawn":  (*step).spawn,
		"join":   func(s *step) { s.tell(api.Join) },
		"jump":   func(s *step) { s.jumpIf(true) },
		"jeq":    func(s *step) { s.jumpIf(s.value(s.A) == s.value(s.B)) },
		"jlt":    func(s *step) { s.jumpIf(s.value(s.A) < s.value(s.B)) },
		"check":  (*step).check,
		"end":    (*step).end,
	}
}

func (s *step) value(a api.Arg) int {
	if a.Reg {
		return s.regs[a.N]
	}
	return a.N
}

// tell makes the event one that concerns what the instruction names.
func (s *step) tell(kind int) {
	s.Kind = kind
	s.Obj = s.X
}

// assign adds the modulus first, as a difference may be below 0, where Go's remainder is, too.
func (s *step) assign(n int) {
	s.regs[s.R] = (n + modulus) % modulus
}

func (s *step) fetch(kind int, from *cells) {
	s.tell(kind)
	s.Value = from.cell[s.X].value
	s.regs[s.R] = s.Value
}

func (s *step) keep(kind int, to *cells) {
	s.tell(kind)
	s.Value = s.value(s.A)
	to.cell[s.X].value = s.Value
}

func (s *step) acquire() {
	s.tell(api.Lock)
	s.locks.cell[s.X].value = s.Thread
}

func (s *step) release() {
	holder := &s.locks.cell[s.X].value
	if *holder != s.Thread {
		s.fail()
		return
	}
	s.tell(api.Unlock)
	*holder = nobody
}

func (s *step) spawn() {
	s.tell(api.Spawn)
	s.threads[s.X].phase = going
}

func (s *step) jumpIf(holds bool) {
	if holds {
		s.at = s.X
	}
}

func (s *step) check() {
	if s.value(s.A) != s.value(s.B) {
		s.fail()
	}
}

func (s *step) fail() {
	s.Kind = api.Fail
	s.phase = failed
}

func (s *step) end() {
	s.Kind = api.End
	s.phase = ended
}
