package explore_test

import (
	"math"
	"reflect"
	"slices"
	"strings"
	"testing"

	"weave/api"
	"weave/code"
	"weave/explore"
	"weave/order"
	"weave/run"
)

const most = 20000

func load(t *testing.T, text string) api.Program {
	t.Helper()
	p, errno, line := code.Parse(text)
	if errno != api.OK {
		t.Fatalf("Parse(%q) = %d, line %d", text, errno, line)
	}
	return p
}

const racing = "var x\nthread a\nspawn b\nload r0 x\nadd r0 r0 1\nstore x r0\njoin b\nthread b\nload r0 x\nadd r0 r0 1\nstore x r0"

// TestAll has reports that were worked out by hand.
func TestAll(t *testing.T) {
	for _, c := range []struct {
		text string
		want api.Report
	}{
		// ends, and threads that have or have not ended at them
		{"", api.Report{States: 1, Outcomes: []string{""}}},
		{"var x", api.Report{States: 1, Outcomes: []string{"x=0"}}},
		{"flag g f\nvar y x", api.Report{States: 1, Outcomes: []string{"y=0 x=0 g=0 f=0"}}},
		{"lock m", api.Report{States: 1, Outcomes: []string{""}}},
		{"thread a", api.Report{States: 2, Outcomes: []string{""}}},
		{"thread a\nset r0 1", api.Report{States: 3, Outcomes: []string{""}}},
		{"thread a\nend\nset r0 1", api.Report{States: 2, Outcomes: []string{""}}},
		{"thread a\nspawn a", api.Report{States: 1, Outcomes: []string{"stuck"}, Stuck: true}},
		{"thread a\njoin a", api.Report{States: 1, Outcomes: []string{"stuck"}, Stuck: true}},
		{"thread a\njoin b\nthread b", api.Report{States: 1, Outcomes: []string{"stuck"}, Stuck: true}},
		{"lock m\nthread a\nlock m\nlock m", api.Report{States: 2, Outcomes: []string{"stuck"}, Stuck: true}},
		{"var x\nthread a\nstore x 12\nspawn a", api.Report{States: 2, Outcomes: []string{"x=12 stuck"}, Stuck: true}},
		{"flag f\nthread a\nput f 3\nspawn a", api.Report{States: 2, Outcomes: []string{"f=3 stuck"}, Stuck: true}},
		{"var x\nflag f\nlock m\nthread a\nlock m\nput f 3\nlock m", api.Report{States: 3, Outcomes: []string{"x=0 f=3 stuck"}, Stuck: true}},
		// spawns of what has begun: whoever comes second waits for ever
		{"thread a\nspawn b\nspawn b\nthread b", api.Report{States: 3, Outcomes: []string{"stuck"}, Stuck: true}},
		{"thread a\nspawn b\nspawn c\nthread b\nspawn c\nthread c",
			api.Report{States: 2 + 4 + 4, Outcomes: []string{"stuck"}, Stuck: true}},
		// what nobody spawns
		{"var x\nthread a\nstore x 1\nthread b\nstore x 2", api.Report{States: 3, Outcomes: []string{"x=1"}}},
		{"var x\nthread a\nthread b\nstore x 1\nthread c\nstore x 2", api.Report{States: 2, Outcomes: []string{"x=0"}}},
		// failures
		{"thread a\ncheck 1 2", api.Report{States: 2, Outcomes: []string{""}, Failed: true}},
		{"thread a\ncheck 1 1", api.Report{States: 3, Outcomes: []string{""}}},
		{"lock m\nthread a\nunlock m", api.Report{States: 2, Outcomes: []string{""}, Failed: true}},
		{"var x\nthread a\nspawn b\njoin b\nstore x 1\nthread b\ncheck 0 1", api.Report{States: 6, Outcomes: []string{"x=1"}, Failed: true}},
		{"lock m\nthread a\nspawn b\nlock m\nthread b\nlock m\ncheck 0 1\nunlock m", api.Report{States: 2 + 2 + 2, Outcomes: []string{"stuck"}, Stuck: true, Failed: true}},
		// no end at all
		{"thread a\nl:\njump l", api.Report{States: 1}},
		{"var x\nthread a\nl:\nload r0 x\nadd r0 r0 1\nstore x r0\njump l", api.Report{States: 4000}},
		{"thread a\nspawn b\nl:\njump l\nthread b\nspawn b", api.Report{States: 2}},
		// accesses at once
		{"var x\nthread a\nspawn b\nload r0 x\nthread b\nload r0 x", api.Report{States: 1 + 9, Outcomes: []string{"x=0"}}},
		{"var x\nthread a\nspawn b\nstore x 0\nthread b\nload r0 x", api.Report{States: 1 + 9, Outcomes: []string{"x=0"}, Racy: []int{0}}},
		{"var x\nthread a\nspawn b\nload r0 x\nthread b\nstore x 0", api.Report{States: 1 + 9, Outcomes: []string{"x=0"}, Racy: []int{0}}},
		{"var x\nthread a\nspawn b\nstore x 1\nthread b\nstore x 1", api.Report{States: 1 + 9, Outcomes: []string{"x=1"}, Racy: []int{0}}},
		{"var x y\nthread a\nspawn b\nstore x 0\nthread b\nload r0 y", api.Report{States: 1 + 9, Outcomes: []string{"x=0 y=0"}}},
		{"var x y\nthread a\nspawn b\nload r0 y\nthread b\nstore x 0", api.Report{States: 1 + 9, Outcomes: []string{"x=0 y=0"}}},
		{"var x\nflag f\nthread a\nspawn b\nstore x 0\nthread b\nput f 0", api.Report{States: 1 + 9, Outcomes: []string{"x=0 f=0"}}},
		{"flag f\nthread a\nspawn b\nput f 0\nthread b\nput f 0", api.Report{States: 1 + 9, Outcomes: []string{"f=0"}}},
		{"var x\nthread a\nstore x 1\nspawn b\nthread b\nstore x 2", api.Report{States: 2 + 6, Outcomes: []string{"x=2"}}},
		{"var x\nthread a\nspawn b\njoin b\nstore x 1\nthread b\nstore x 2", api.Report{States: 1 + 3 + 3, Outcomes: []string{"x=1"}}},
		{"var x y\nthread a\nspawn b\nstore y 0\nstore x 0\nthread b\nload r0 y\nload r0 x",
			api.Report{States: 1 + 16, Outcomes: []string{"x=0 y=0"}, Racy: []int{0, 1}}},
		{"var x y z\nthread a\nspawn b\nstore z 0\nstore y 0\nthread b\nload r0 z\njoin a\nstore y 0",
			api.Report{States: 1 + 8 + 3, Outcomes: []string{"x=0 y=0 z=0"}, Racy: []int{2}}},
		// outcomes: in their order as texts, each once
		{"var x\nthread a\nspawn b\nstore x 9\nthread b\nstore x 10", api.Report{States: 1 + 13, Outcomes: []string{"x=10", "x=9"}, Racy: []int{0}}},
		{"var x\nthread a\nspawn b\nstore x 1\nthread b\nstore x 2", api.Report{States: 1 + 13, Outcomes: []string{"x=1", "x=2"}, Racy: []int{0}}},
	} {
		got, errno := explore.All(load(t, c.text), most)
		if errno != api.OK || !reflect.DeepEqual(got, c.want) {
			t.Errorf("J1: %q: All = %+v, %d, want %+v", c.text, got, errno, c.want)
		}
		checkReading(t, c.text)
	}
}

// TestExamples: the examples of the document's page on the whole, and those of its kind.
func TestExamples(t *testing.T) {
	for _, c := range []struct {
		text     string
		outcomes []string
		stuck    bool
		racy     []int
	}{
		{"var x\nthread a\nspawn b\nstore x 1\nthread b\nload r0 x", []string{"x=1"}, false, []int{0}},
		{"var x\nlock m\nthread a\nspawn b\nlock m\nstore x 1\nunlock m\nthread b\nlock m\nload r0 x\nunlock m", []string{"x=1"}, false, nil},
		{"var x\nlock m\nthread a\nspawn b\nlock m\nstore x 1\nunlock m\nthread b\nlock m\nload r0 x", []string{"x=0 stuck", "x=1"}, true, nil},
		{"var x\nflag f\nthread a\nspawn b\nstore x 1\nput f 1\nthread b\nget r1 f\njeq r1 0 out\nload r0 x\nout:", []string{"x=1 f=1"}, false, nil},
		{racing, []string{"x=1", "x=2"}, false, []int{0}},
		{"var x\nlock m n\nthread a\nspawn b\nlock m\nlock n\nstore x 1\nunlock n\nunlock m\nthread b\nlock n\nlock m\nstore x 2\nunlock m\nunlock n",
			[]string{"x=0 stuck", "x=1", "x=2"}, true, nil},
		{raceBehindRace, []string{"x=1 y=1"}, false, []int{0}},
	} {
		r, errno := explore.All(load(t, c.text), most)
		if errno != api.OK || !slices.Equal(r.Outcomes, c.outcomes) || r.Stuck != c.stuck || r.Failed || !slices.Equal(r.Racy, c.racy) {
			t.Errorf("J1: %q: All = %+v, %d", c.text, r, errno)
		}
		checkReading(t, c.text)
	}
}

// loop has 1000 states for each of its instructions, of which there are two at least.
func loop(instructions int) string {
	return "l:\nadd r0 r0 1\n" + strings.Repeat("set r1 0\n", instructions-2) + "jump l\n"
}

// TestMost: most below 1 and above 20000, and programs of just so many states, and of one more.
func TestMost(t *testing.T) {
	full, over := "thread a\n"+loop(20), "thread a\nset r1 0\n"+loop(20)
	for _, c := range []struct {
		text   string
		most   int
		states int
		errno  api.Errno
	}{
		{"", 1, 1, api.OK},
		{"", 0, 0, api.ErrRange},
		{"", -1, 0, api.ErrRange},
		{"", math.MinInt, 0, api.ErrRange},
		{"", 20000, 1, api.OK},
		{"", 20001, 0, api.ErrRange},
		{"", math.MaxInt, 0, api.ErrRange},
		{"thread a", 1, 0, api.ErrMany},
		{"thread a", 2, 2, api.OK},
		{"thread a\nset r0 1", 2, 0, api.ErrMany},
		{"thread a\nset r0 1", 3, 3, api.OK},
		{"thread a\nspawn b\nspawn c\nspawn d\nthread b\nthread c\nthread d", 4, 0, api.ErrMany},
		{full, 20000, 20000, api.OK},
		{full, 19999, 0, api.ErrMany},
		{over, 20000, 0, api.ErrMany},
		{over, 20001, 0, api.ErrRange}, // it would do, but is out of the bounds
		{over, 0, 0, api.ErrRange},
	} {
		p := load(t, c.text)
		r, errno := explore.All(p, c.most)
		if errno != c.errno || r.States != c.states || errno != api.OK && !reflect.DeepEqual(r, api.Report{}) {
			t.Errorf("J1: %q: All(%d) = %+v, %d, want %d states, %d", c.text, c.most, r, errno, c.states, c.errno)
		}
		if l, ok, errno := explore.Reach(p, "", c.most); errno != c.errno || ok != slices.Contains(r.Outcomes, "") || !ok && l != nil {
			t.Errorf("J2: %q: Reach(%d) = %v, %v, %d, want %d", c.text, c.most, l, ok, errno, c.errno)
		}
		if l, ok, errno := explore.Witness(p, 0, c.most); errno != c.errno || ok || l != nil {
			t.Errorf("J2: %q: Witness(%d) = %v, %v, %d, want %d", c.text, c.most, l, ok, errno, c.errno)
		}
	}
}

// TestErrorsComeFirst: what is looked for lies near the beginning, and there are too many states all the same.
func TestErrorsComeFirst(t *testing.T) {
	p := load(t, "var x\nthread a\nspawn b\nload r0 x\nstore x 1\njeq r0 0 out\n"+loop(20)+"out:\nthread b\nstore x 1\n")
	r, errno := explore.All(p, most)
	if errno != api.ErrMany || !reflect.DeepEqual(r, api.Report{}) {
		t.Errorf("J1: All = %+v, %d", r, errno)
	}
	if l, ok, errno := explore.Reach(p, "x=1", most); l != nil || ok || errno != api.ErrMany {
		t.Errorf("J2: Reach = %v, %v, %d", l, ok, errno)
	}
	if l, ok, errno := explore.Witness(p, 0, most); l != nil || ok || errno != api.ErrMany {
		t.Errorf("J2: Witness = %v, %v, %d", l, ok, errno)
	}
}

// outcomeOf tells an end's outcome by a run, or that it is no end.
func outcomeOf(t *testing.T, text string, schedule []int) (string, bool) {
	t.Helper()
	p, m := load(t, text), run.New(load(t, text))
	for _, th := range schedule {
		if _, errno := m.Step(th); errno != api.OK {
			t.Fatalf("J2: %q: a step of %v is answered %d", text, schedule, errno)
		}
	}
	return readOutcome(p, m.Show()), m.Ready() == nil
}

func checkReach(t *testing.T, text, outcome string, want bool) {
	t.Helper()
	l, ok, errno := explore.Reach(load(t, text), outcome, most)
	if ok != want || errno != api.OK || !ok && l != nil {
		t.Fatalf("J2: %q: Reach(%q) = %v, %v, %d, want %v", text, outcome, l, ok, errno, want)
	}
	if !ok {
		return
	}
	if got, end := outcomeOf(t, text, l); !end || got != outcome {
		t.Fatalf("J2: %q: Reach(%q) = %v, which leads to %q (an end: %v)", text, outcome, l, got, end)
	}
}

func checkWitness(t *testing.T, text string, x int, want bool) {
	t.Helper()
	l, ok, errno := explore.Witness(load(t, text), x, most)
	if ok != want || errno != api.OK || !ok && l != nil {
		t.Fatalf("J2: %q: Witness(%d) = %v, %v, %d, want %v", text, x, l, ok, errno, want)
	}
	if !ok {
		return
	}
	events, _ := run.Run(load(t, text), l)
	if len(events) != len(l) {
		t.Fatalf("J2: %q: Witness(%d) = %v has steps with errors", text, x, l)
	}
	if !slices.ContainsFunc(order.Races(events), func(r api.Pair) bool { return events[r.J].Obj == x }) {
		t.Fatalf("J2: %q: Witness(%d) = %v is a run without a race of it: %v", text, x, l, events)
	}
}

func TestReach(t *testing.T) {
	for _, c := range []struct {
		text    string
		outcome string
		want    bool
	}{
		{racing, "x=1", true},
		{racing, "x=2", true},
		{racing, "x=0", false}, // of states that are no ends
		{racing, "x=3", false},
		{racing, "", false},
		{racing, "x=1 ", false},
		{racing, "x=1\n", false},
		{racing, "x=1 stuck", false},
		{racing, "\xff\x00", false},
		{racing, strings.Repeat("x=1 ", 10000), false},
		{"", "", true},
		{"", "stuck", false},
		{"thread a", "", true},
		{"thread a\nspawn a", "stuck", true},
		{"thread a\nspawn a", " stuck", false},
		{"thread a\nspawn a", "", false},
		{"var x\nthread a\nstore x 5\nspawn a", "x=5 stuck", true},
		{"var x\nthread a\nstore x 5\nspawn a", "x=5", false},
		{"thread a\ncheck 1 2", "", true},
		{"thread a\nl:\njump l", "", false},
		{"var x\nflag f\nthread a\nput f 1", "x=0 f=1", true},
		{"var x\nflag f\nthread a\nput f 1", "f=1", false},
	} {
		checkReach(t, c.text, c.outcome, c.want)
	}
}

func TestWitness(t *testing.T) {
	both := "var x y\nthread a\nspawn b\nstore y 0\nstore x 0\nthread b\nload r0 y\nload r0 x"
	for _, c := range []struct {
		text string
		x    int
		want bool
	}{
		{racing, 0, true},
		{racing, 1, false},
		{racing, -1, false},
		{racing, math.MaxInt, false},
		{racing, math.MinInt, false},
		{both, 0, true},
		{both, 1, true},
		{both, 2, false},
		{raceBehindRace, 0, true},
		{raceBehindRace, 1, false},
		{"", 0, false},
		{"var x\nthread a\nspawn b\nload r0 x\nthread b\nload r0 x", 0, false},
		{"flag f\nthread a\nspawn b\nput f 1\nthread b\nput f 1", 0, false},
		{"var x\nthread a\nspawn b\nspawn c\nload r0 x\nthread b\nload r0 x\nthread c\nstore x 1", 0, true},
		{"var x\nthread a\nl:\nspawn b\nm:\nstore x 1\njump m\nthread b\nl:\nload r0 x\njump l", 0, true}, // runs without an end
	} {
		checkWitness(t, c.text, c.x, c.want)
	}
}

// spoil writes over all memory of a list, that behind its items, too.
func spoil[T any](l []T, with T) {
	l = l[:cap(l)]
	for i := range l {
		l[i] = with
	}
}

func spoilProgram(p api.Program) {
	for _, th := range p.Threads {
		spoil(th.Code, api.Instr{Op: "end"})
	}
	spoil(p.Threads, api.Thread{})
	spoil(p.Vars, "spoilt")
	spoil(p.Flags, "spoilt")
	spoil(p.Locks, "spoilt")
}

// TestNewMemory: programs are neither changed nor kept, and answers share nothing (G4).
func TestNewMemory(t *testing.T) {
	text := "var x\nflag f\nlock m\nthread a\nspawn b\nstore x 1\nlock m\nput f 1\nthread b\nstore x 2\nlock m\n"
	p, q := load(t, text), load(t, text)
	ask := func(p api.Program) (api.Report, []int, []int) {
		r, _ := explore.All(p, most)
		reach, _, _ := explore.Reach(p, r.Outcomes[len(r.Outcomes)-1], most)
		witness, _, _ := explore.Witness(p, 0, most)
		return r, reach, witness
	}
	r, reach, witness := ask(p)
	if !reflect.DeepEqual(p, q) {
		t.Fatalf("G4: %v was made of %v", p, q)
	}
	spoilProgram(p)
	r2, reach2, witness2 := ask(q)
	if len(reach) == 0 || len(witness) == 0 || len(r.Racy) == 0 {
		t.Fatalf("%+v, %v, %v: the program has lost its use", r, reach, witness)
	}
	if !reflect.DeepEqual(r, r2) || !slices.Equal(reach, reach2) || !slices.Equal(witness, witness2) {
		t.Errorf("G4: %+v, %v, %v, then %+v, %v, %v", r, reach, witness, r2, reach2, witness2)
	}
	spoil(r.Outcomes, "spoilt")
	spoil(r.Racy, -1)
	spoil(reach, -1)
	spoil(witness, -1)
	r3, reach3, witness3 := ask(q)
	if !reflect.DeepEqual(r2, r3) || !slices.Equal(reach2, reach3) || !slices.Equal(witness2, witness3) {
		t.Errorf("G4: %+v, %v, %v, then %+v, %v, %v", r2, reach2, witness2, r3, reach3, witness3)
	}
}
