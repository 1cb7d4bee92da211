// Package run runs threads, step by step: see doc/02-run.md.
package run

import "weave/api"

const (
	mostNames = 4  // of a kind
	mostCode  = 24 // instructions of a thread
	registers = 4
	modulus   = 1000
)

// Machine is threads and what they share. Make it by New.
//
// It is made of arrays alone, so that an assignment copies the whole of it.
type Machine struct {
	vars, flags, locks cells
	threads            [mostNames]thread
	threadCount        int
}

// New makes a machine at its beginning (B1).
func New(p api.Program) *Machine {
	m := &Machine{
		vars:        newCells(p.Vars, 0),
		flags:       newCells(p.Flags, 0),
		locks:       newCells(p.Locks, nobody),
		threadCount: len(p.Threads),
	}
	table := deeds()
	for i, t := range p.Threads {
		m.threads[i] = newThread(t, table)
	}
	if m.threadCount > 0 {
		m.threads[0].phase = going
	}
	return m
}

// Copy makes another machine in the same state (B1).
func (m *Machine) Copy() *Machine {
	other := *m
	return &other
}

// Step lets a thread go on (B2).
func (m *Machine) Step(t int) (api.Event, api.Errno) {
	if e := m.refusal(t); e != api.OK {
		return api.Event{}, e
	}
	th := &m.threads[t]
	next := th.next()
	s := step{Machine: m, thread: th, Instr: next.Instr, Event: api.Event{Thread: t}}
	th.at++
	next.do(&s)
	return s.Event, api.OK
}

// Ready tells which threads can go on (B3).
func (m *Machine) Ready() []int {
	var ready []int
	for t := range m.threadCount {
		if m.refusal(t) == api.OK {
			ready = append(ready, t)
		}
	}
	return ready
}

// refusal tells why a thread cannot go on, without trying it.
func (m *Machine) refusal(t int) api.Errno {
	if t < 0 || t >= m.threadCount || m.threads[t].phase == fresh {
		return api.ErrNone
	}
	if m.threads[t].over() {
		return api.ErrDone
	}
	if m.blocks(m.threads[t].next().Instr) {
		return api.ErrWait
	}
	return api.OK
}

// blocks tells whether an instruction has to wait for another thread.
func (m *Machine) blocks(in api.Instr) bool {
	switch in.Op {
	case "lock":
		return m.locks.cell[in.X].value != nobody
	case "join":
		return !m.threads[in.X].over()
	case "spawn":
		return m.threads[in.X].phase != fresh
	}
	return false
}

// Run plays a schedule (B3).
func Run(p api.Program, schedule []int) ([]api.Event, string) {
	m := New(p)
	var events []api.Event
	for _, t := range schedule {
		if e, errno := m.Step(t); errno == api.OK {
			events = append(events, e)
		}
	}
	return events, m.Show()
}
