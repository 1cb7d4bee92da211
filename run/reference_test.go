package run_test

import (
	"fmt"
	"math/rand"
	"slices"
	"strings"
	"testing"

	"weave/api"
	"weave/run"
)

// reference is a second machine, written another way: maps by name, and an instruction at a time read off the table.
type reference struct {
	p     api.Program
	vars  map[string]int // variables and flags
	holds map[string]string
	state map[string]string // "" (new), "at", "ended", "failed"
	at    map[string]int
	regs  map[string]*[4]int
}

func newReference(p api.Program) *reference {
	r := &reference{p, map[string]int{}, map[string]string{}, map[string]string{}, map[string]int{}, map[string]*[4]int{}}
	for i, t := range p.Threads {
		r.regs[t.Name] = new([4]int)
		if i == 0 {
			r.state[t.Name] = "at"
		}
	}
	return r
}

func (r *reference) step(t int) (api.Event, api.Errno) {
	if t < 0 || t >= len(r.p.Threads) || r.state[r.p.Threads[t].Name] == "" {
		return api.Event{}, api.ErrNone
	}
	name := r.p.Threads[t].Name
	if r.state[name] != "at" {
		return api.Event{}, api.ErrDone
	}
	in := api.Instr{Op: "end"}
	if k := r.at[name]; k < len(r.p.Threads[t].Code) {
		in = r.p.Threads[t].Code[k]
	}
	regs := r.regs[name]
	value := func(a api.Arg) int {
		if a.Reg {
			return regs[a.N]
		}
		return a.N
	}
	a, b, next := value(in.A), value(in.B), r.at[name]+1
	e := api.Event{Thread: t}
	fail := func() {
		r.state[name] = "failed"
		e.Kind = api.Fail
	}
	switch in.Op {
	case "set":
		regs[in.R] = a
	case "add":
		regs[in.R] = (a + b) % 1000
	case "sub":
		regs[in.R] = (1000 + a - b) % 1000
	case "mul":
		regs[in.R] = a * b % 1000
	case "load":
		regs[in.R] = r.vars[r.p.Vars[in.X]]
		e.Kind, e.Obj, e.Value = api.Read, in.X, regs[in.R]
	case "get":
		regs[in.R] = r.vars[r.p.Flags[in.X]]
		e.Kind, e.Obj, e.Value = api.Get, in.X, regs[in.R]
	case "store":
		r.vars[r.p.Vars[in.X]] = a
		e.Kind, e.Obj, e.Value = api.Write, in.X, a
	case "put":
		r.vars[r.p.Flags[in.X]] = a
		e.Kind, e.Obj, e.Value = api.Put, in.X, a
	case "lock":
		m := r.p.Locks[in.X]
		if r.holds[m] != "" {
			return api.Event{}, api.ErrWait
		}
		r.holds[m] = name
		e.Kind, e.Obj = api.Lock, in.X
	case "unlock":
		if m := r.p.Locks[in.X]; r.holds[m] != name {
			fail()
		} else {
			r.holds[m] = ""
			e.Kind, e.Obj = api.Unlock, in.X
		}
	case "spawn":
		u := r.p.Threads[in.X].Name
		if r.state[u] != "" {
			return api.Event{}, api.ErrWait
		}
		r.state[u] = "at"
		e.Kind, e.Obj = api.Spawn, in.X
	case "join":
		if s := r.state[r.p.Threads[in.X].Name]; s != "ended" && s != "failed" {
			return api.Event{}, api.ErrWait
		}
		e.Kind, e.Obj = api.Join, in.X
	case "jump":
		next = in.X
	case "jeq":
		if a == b {
			next = in.X
		}
	case "jlt":
		if a < b {
			next = in.X
		}
	case "check":
		if a != b {
			fail()
		}
	case "end":
		r.state[name] = "ended"
		e.Kind = api.End
	}
	r.at[name] = next
	return e, api.OK
}

func (r *reference) show() string {
	var b strings.Builder
	for _, name := range append(slices.Clone(r.p.Vars), r.p.Flags...) {
		fmt.Fprintf(&b, "%s=%d\n", name, r.vars[name])
	}
	for _, name := range r.p.Locks {
		holder := r.holds[name]
		if holder == "" {
			holder = "-"
		}
		fmt.Fprintf(&b, "%s=%s\n", name, holder)
	}
	for _, t := range r.p.Threads {
		regs := strings.Trim(fmt.Sprint(*r.regs[t.Name]), "[]")
		switch s := r.state[t.Name]; s {
		case "":
			fmt.Fprintf(&b, "%s new\n", t.Name)
		case "at":
			fmt.Fprintf(&b, "%s at %d %s\n", t.Name, r.at[t.Name], regs)
		default:
			fmt.Fprintf(&b, "%s %s %s\n", t.Name, s, regs)
		}
	}
	return b.String()
}

// randomProgram has threads of all instructions; checks and ends are rare, or all would be over soon.
func randomProgram(rnd *rand.Rand) string {
	forms := []string{
		"set R A", "add R A A", "sub R A A", "mul R A A", "load R V", "store V A", "get R F", "put F A", "lock M", "unlock M",
		"lock m \n unlock m", "lock n \n store V A \n unlock n", "spawn T", "join T", "jump L", "jeq A A L", "jlt A A L",
	}
	words := map[string][]string{
		"R": {"r0", "r1", "r2", "r3"}, "A": {"r0", "r1", "r2", "r3", "0", "1", "2", "500", "999"}, "V": {"x", "y"}, "F": {"f", "g"},
		"M": {"m", "n"}, "T": {"a", "b", "c", "d"}, "L": {"start", "mid", "out"},
	}
	text := "var x y\nflag f g\nlock m n\n"
	for _, name := range []string{"a", "b", "c", "d"} {
		text += "thread " + name + "\n"
		if name == "a" && rnd.Intn(4) > 0 {
			text += "spawn b\nspawn c\n"
		}
		text += "start:\n"
		for range rnd.Intn(5) {
			text += randomInstruction(rnd, forms, words)
		}
		text += "mid:\n"
		for range rnd.Intn(5) {
			text += randomInstruction(rnd, forms, words)
		}
		text += "out:\n"
	}
	return text
}

func randomInstruction(rnd *rand.Rand, forms []string, words map[string][]string) string {
	if rnd.Intn(20) == 0 {
		return []string{"end", "check r0 r1", "check r2 0"}[rnd.Intn(3)] + "\n"
	}
	parts := strings.Split(forms[rnd.Intn(len(forms))], " ")
	for i, w := range parts {
		if l := words[w]; l != nil {
			parts[i] = l[rnd.Intn(len(l))]
		}
	}
	return strings.Join(parts, " ") + "\n"
}

// TestAgainstReference goes along random runs, and at each state asks every thread of a copy, too.
func TestAgainstReference(t *testing.T) {
	rnd := rand.New(rand.NewSource(3))
	kinds := map[int]int{}
	for range 600 {
		text := randomProgram(rnd)
		p := load(t, text)
		m, ref := run.New(p), newReference(p)
		var schedule []int
		var events []api.Event
		for range 80 {
			th := rnd.Intn(6) - 1
			checkReady(t, text, m)
			schedule = append(schedule, th)
			e, errno := m.Step(th)
			want, wantErrno := ref.step(th)
			if e != want || errno != wantErrno || m.Show() != ref.show() {
				t.Fatalf("B2: %q, behind %v: %v, %d, %q, want %v, %d, %q", text, schedule, e, errno, m.Show(), want, wantErrno, ref.show())
			}
			if errno == api.OK {
				kinds[e.Kind]++
				events = append(events, e)
			}
		}
		if l, s := run.Run(p, schedule); !slices.Equal(l, events) || s != m.Show() {
			t.Fatalf("B3: %q: Run(%v) = %v, %q, want %v, %q", text, schedule, l, s, events, m.Show())
		}
	}
	for k := api.Local; k <= api.End; k++ {
		if kinds[k] < 30 {
			t.Errorf("only %d events of kind %d: the programs have lost their use", kinds[k], k)
		}
	}
}

func checkReady(t *testing.T, text string, m *run.Machine) {
	t.Helper()
	var want []int
	before := m.Show()
	for th := range 5 {
		if _, errno := m.Copy().Step(th); errno == api.OK {
			want = append(want, th)
		}
	}
	if got := m.Ready(); !slices.Equal(got, want) {
		t.Fatalf("B3: %q, at %q: Ready() = %v, want %v", text, before, got, want)
	}
	if m.Show() != before {
		t.Fatalf("B1: %q: copies' steps made %q of %q", text, m.Show(), before)
	}
}
