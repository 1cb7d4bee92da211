package code

import (
	"strings"

	"weave/api"
)

// fault is why a text is refused. It goes up by panic, from wherever in a line it is found.
type fault struct {
	errno api.Errno
	line  int
}

// entry is what a name stands for.
type entry struct {
	kind   byte
	number int
}

// body is a thread that is being read. It holds pointers, as an instruction that names what comes later is
// completed when all lines are known.
type body struct {
	code   []*api.Instr
	labels map[string]*entry
}

type reader struct {
	line    int
	program api.Program // without its threads, up to the end
	threads []string
	bodies  []*body
	names   map[string]*entry  // of all kinds but labels: no two may have the same one
	lists   map[byte]*[]string // where the names of a kind go, in their order
	later   []func()           // what can be looked up behind the last line only, in the order of lines
}

func newReader() *reader {
	r := &reader{names: map[string]*entry{}}
	r.lists = map[byte]*[]string{
		variable: &r.program.Vars,
		flag:     &r.program.Flags,
		lock:     &r.program.Locks,
		thread:   &r.threads,
	}
	return r
}

// read takes all lines; its answer is the fault that counts, or none (api.OK).
func (r *reader) read(s string) (f fault) {
	defer func() {
		if v := recover(); v != nil {
			told, ok := v.(fault)
			if !ok {
				panic(v)
			}
			f = told
		}
	}()
	for line := range strings.SplitSeq(s, "\n") {
		r.line++
		if words := split(line); len(words) > 0 {
			r.take(words[0], words[1:])
		}
	}
	for _, lookUp := range r.later {
		lookUp()
	}
	r.complete()
	return fault{}
}

func (r *reader) demand(holds bool, errno api.Errno) {
	if !holds {
		panic(fault{errno, r.line})
	}
}

func (r *reader) take(first string, rest []string) {
	name, colon := strings.CutSuffix(first, ":")
	switch {
	case first == "thread":
		r.begin(rest)
	case len(r.bodies) == 0:
		r.declare(headingKind(first), rest)
	case colon && len(rest) == 0:
		r.mark(name)
	default:
		r.instruct(first, rest)
	}
}

func (r *reader) begin(words []string) {
	r.demand(len(words) == 1, api.ErrForm)
	r.declare(thread, words)
	r.bodies = append(r.bodies, &body{labels: map[string]*entry{}})
}

// declare holds all names against those that are there ahead of counting them, as ErrTwice goes ahead of ErrMany.
func (r *reader) declare(kind byte, words []string) {
	r.demand(kind != none && len(words) > 0 && areNames(words), api.ErrForm)
	list := r.lists[kind]
	for _, w := range words {
		r.demand(r.names[w] == nil, api.ErrTwice)
		r.names[w] = &entry{kind, len(*list)}
		*list = append(*list, w)
	}
	r.demand(len(*list) <= mostNames, api.ErrMany)
}

func (r *reader) current() *body { return r.bodies[len(r.bodies)-1] }

func (r *reader) mark(name string) {
	b := r.current()
	r.demand(isName(name), api.ErrForm)
	r.demand(b.labels[name] == nil, api.ErrTwice)
	b.labels[name] = &entry{label, len(b.code)}
}

func (r *reader) instruct(op string, words []string) {
	parts, known := partsOf(op)
	r.demand(known && fits(words, parts), api.ErrForm)
	b := r.current()
	r.demand(len(b.code) < mostCode, api.ErrMany)
	in := &api.Instr{Op: op}
	for i, w := range words {
		r.fill(in, parts[i], w)
	}
	b.code = append(b.code, in)
}

func (r *reader) fill(in *api.Instr, part byte, word string) {
	switch part {
	case register:
		in.R = registerNumber(word)
	case firstArg:
		in.A = argOf(word)
	case nextArg:
		in.B = argOf(word)
	case thread:
		r.fillLater(in, r.names, part, word)
	case label:
		r.fillLater(in, r.current().labels, part, word)
	default:
		in.X = find(r.names, part, word, r.line)
	}
}

// fillLater puts the look-up off: a thread or label may be named ahead of its line.
func (r *reader) fillLater(in *api.Instr, table map[string]*entry, kind byte, name string) {
	line := r.line
	r.later = append(r.later, func() { in.X = find(table, kind, name, line) })
}

func find(table map[string]*entry, kind byte, name string, line int) int {
	e := table[name]
	if e == nil || e.kind != kind {
		panic(fault{api.ErrNone, line})
	}
	return e.number
}

// complete puts the threads, whose instructions are all known now, into the program.
func (r *reader) complete() {
	for i, b := range r.bodies {
		t := api.Thread{Name: r.threads[i]}
		for _, in := range b.code {
			t.Code = append(t.Code, *in)
		}
		r.program.Threads = append(r.program.Threads, t)
	}
}
