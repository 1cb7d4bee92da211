package run

import "weave/api"

// nobody stands for the thread that holds a lock, if none does.
const nobody = -1

// cell is a variable or flag with its value, or a lock with the number of the thread that holds it.
type cell struct {
	name  string
	value int
}

type cells struct {
	cell  [mostNames]cell
	count int
}

func newCells(names []string, value int) cells {
	c := cells{count: len(names)}
	for i, name := range names {
		c.cell[i] = cell{name, value}
	}
	return c
}

// phase is how far a thread has come.
type phase int

const (
	fresh phase = iota // it has not begun
	going
	ended
	failed
)

// deed is an instruction with what it does.
type deed struct {
	api.Instr
	do func(*step)
}

// thread has one deed more than instructions: what comes behind the last one is an end, like any other.
type thread struct {
	name  string
	phase phase
	at    int
	regs  [registers]int
	code  [mostCode + 1]deed
}

func newThread(t api.Thread, table map[string]func(*step)) thread {
	th := thread{name: t.Name}
	for i, in := range t.Code {
		th.code[i] = deed{in, table[in.Op]}
	}
	th.code[len(t.Code)] = deed{api.Instr{Op: "end"}, table["end"]}
	return th
}

func (th *thread) next() *deed { return &th.code[th.at] }

func (th *thread) over() bool { return th.phase == ended || th.phase == failed }
