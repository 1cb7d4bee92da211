package explore_test

import (
	"reflect"
	"slices"
	"strconv"
	"strings"
	"testing"

	"weave/api"
	"weave/explore"
	"weave/run"
)

// threadLines is the words of what a Show says of each thread.
func threadLines(p api.Program, show string) [][]string {
	lines := strings.Split(strings.TrimSuffix(show, "\n"), "\n")
	var words [][]string
	for _, line := range lines[len(lines)-len(p.Threads):] {
		words = append(words, strings.Fields(line))
	}
	return words
}

// readOutcome reads an outcome off the Show of an end.
func readOutcome(p api.Program, show string) string {
	var parts []string
	for line := range strings.Lines(show) {
		if len(parts) < len(p.Vars)+len(p.Flags) {
			parts = append(parts, strings.TrimSuffix(line, "\n"))
		}
	}
	for _, words := range threadLines(p, show) {
		if words[1] == "at" {
			return strings.Join(append(parts, "stuck"), " ")
		}
	}
	return strings.Join(parts, " ")
}

// nextInstr is what a Ready thread does next.
func nextInstr(p api.Program, show string, t int) api.Instr {
	at, _ := strconv.Atoi(threadLines(p, show)[t][2])
	if at < len(p.Threads[t].Code) {
		return p.Threads[t].Code[at]
	}
	return api.Instr{Op: "end"}
}

// reading goes through all states another way: depth first, and by what their Shows say alone.
type reading struct {
	p        api.Program
	seen     map[string]bool
	outcomes map[string]bool
	racy     map[int]bool
	r        api.Report
}

func (d *reading) visit(m *run.Machine, most int) {
	show := m.Show()
	if d.seen[show] || len(d.seen) > most {
		return
	}
	d.seen[show] = true
	ready := m.Ready()
	for _, t := range ready {
		for _, u := range ready {
			a, b := nextInstr(d.p, show, t), nextInstr(d.p, show, u)
			if t != u && a.Op == "store" && (b.Op == "load" || b.Op == "store") && a.X == b.X {
				d.racy[a.X] = true
			}
		}
	}
	if ready == nil {
		outcome := readOutcome(d.p, show)
		d.outcomes[outcome] = true
		d.r.Stuck = d.r.Stuck || strings.HasSuffix(outcome, "stuck")
	}
	for _, words := range threadLines(d.p, show) {
		d.r.Failed = d.r.Failed || words[1] == "failed"
	}
	for _, t := range ready {
		c := m.Copy()
		c.Step(t)
		d.visit(c, most)
	}
}

// read tells what All is to tell; nothing and false, if there are too many states.
func read(p api.Program, most int) (api.Report, bool) {
	d := &reading{p: p, seen: map[string]bool{}, outcomes: map[string]bool{}, racy: map[int]bool{}}
	d.visit(run.New(p), most)
	if len(d.seen) > most {
		return api.Report{}, false
	}
	d.r.States = len(d.seen)
	for o := range d.outcomes {
		d.r.Outcomes = append(d.r.Outcomes, o)
	}
	for x := range d.racy {
		d.r.Racy = append(d.r.Racy, x)
	}
	slices.Sort(d.r.Outcomes)
	slices.Sort(d.r.Racy)
	return d.r, true
}

// checkReading holds the three calls against that reading.
func checkReading(t *testing.T, text string) api.Report {
	t.Helper()
	p := load(t, text)
	want, _ := read(p, most)
	r, errno := explore.All(p, most)
	if errno != api.OK || !reflect.DeepEqual(r, want) {
		t.Fatalf("J1: %q: All = %+v, %d, want %+v", text, r, errno, want)
	}
	for _, o := range r.Outcomes {
		checkReach(t, text, o, true)
		checkReach(t, text, o+" stuck", slices.Contains(r.Outcomes, o+" stuck"))
	}
	for x := -1; x <= len(p.Vars); x++ {
		checkWitness(t, text, x, slices.Contains(r.Racy, x))
	}
	return r
}
