package run_test

import (
	"math"
	"reflect"
	"slices"
	"strconv"
	"strings"
	"testing"

	"weave/api"
	"weave/code"
	"weave/run"
)

func load(t *testing.T, s string) api.Program {
	t.Helper()
	p, e, line := code.Parse(s)
	if e != api.OK {
		t.Fatalf("Parse(%q) = %d, line %d", s, e, line)
	}
	return p
}

func start(t *testing.T, s string) *run.Machine {
	t.Helper()
	return run.New(load(t, s))
}

func show(t *testing.T, promise string, m *run.Machine, want ...string) {
	t.Helper()
	text := ""
	for _, line := range want {
		text += line + "\n"
	}
	if got := m.Show(); got != text {
		t.Errorf("%s: Show() = %q, want %q", promise, got, text)
	}
}

// step asks for an event, and that the step is one that Ready foretold.
func step(t *testing.T, m *run.Machine, want api.Event) {
	t.Helper()
	if !slices.Contains(m.Ready(), want.Thread) {
		t.Errorf("B3: %d is not in Ready() = %v", want.Thread, m.Ready())
	}
	if e, errno := m.Step(want.Thread); errno != api.OK || e != want {
		t.Errorf("B2: Step(%d) = %v, %d, want %v", want.Thread, e, errno, want)
	}
}

// steps lets a thread go on, whatever its events are.
func steps(t *testing.T, m *run.Machine, threads ...int) {
	t.Helper()
	for _, th := range threads {
		if _, errno := m.Step(th); errno != api.OK {
			t.Fatalf("B2: Step(%d) = %d", th, errno)
		}
	}
}

// refused asks for an error, no event, no change, and no word of the thread in Ready.
func refused(t *testing.T, m *run.Machine, thread int, want api.Errno) {
	t.Helper()
	before := m.Show()
	if e, errno := m.Step(thread); errno != want || e != (api.Event{}) {
		t.Errorf("B2: Step(%d) = %v, %d, want %d", thread, e, errno, want)
	}
	if m.Show() != before {
		t.Errorf("B2: Step(%d) with an error made %q of %q", thread, m.Show(), before)
	}
	if slices.Contains(m.Ready(), thread) {
		t.Errorf("B3: %d is in Ready() = %v", thread, m.Ready())
	}
}

func TestBeginning(t *testing.T) {
	m := start(t, "var x y\nflag f\nlock m n\nthread a\nend\nthread b\nend\nthread c")
	show(t, "B1", m, "x=0", "y=0", "f=0", "m=-", "n=-", "a at 0 0 0 0 0", "b new", "c new")
	if r := m.Ready(); !slices.Equal(r, []int{0}) {
		t.Errorf("B1: Ready() = %v", r)
	}
}

func TestWithoutThreads(t *testing.T) {
	for s, want := range map[string]string{"": "", "var x\nlock m\nflag f": "x=0\nf=0\nm=-\n"} {
		m := start(t, s)
		if m.Show() != want || m.Ready() != nil {
			t.Errorf("B1: %q: %q, %v", s, m.Show(), m.Ready())
		}
		refused(t, m, 0, api.ErrNone)
		if l, got := run.Run(load(t, s), []int{0, 1, -1}); l != nil || got != want {
			t.Errorf("B3: %q: %v, %q", s, l, got)
		}
	}
}

func TestThreadsThatThereAreNoneOf(t *testing.T) {
	m := start(t, "thread a\nend\nthread b\nend")
	for _, n := range []int{-1, 1, 2, 3, 4, 5, 100, math.MaxInt, math.MinInt} {
		refused(t, m, n, api.ErrNone)
	}
	step(t, m, api.Event{Kind: api.End})
	refused(t, m, 0, api.ErrDone)
	refused(t, m, 1, api.ErrNone)
}

func TestNumbers(t *testing.T) {
	for _, c := range []struct {
		op   string
		a, b int
		want int
	}{
		{"add", 0, 0, 0}, {"add", 999, 0, 999}, {"add", 999, 1, 0}, {"add", 999, 999, 998}, {"add", 500, 500, 0}, {"add", 2, 3, 5},
		{"sub", 0, 0, 0}, {"sub", 0, 1, 999}, {"sub", 0, 999, 1}, {"sub", 999, 999, 0}, {"sub", 999, 0, 999}, {"sub", 5, 3, 2}, {"sub", 3, 5, 998},
		{"mul", 0, 999, 0}, {"mul", 999, 999, 1}, {"mul", 10, 100, 0}, {"mul", 37, 27, 999}, {"mul", 6, 7, 42}, {"mul", 500, 3, 500},
	} {
		a, b := strconv.Itoa(c.a), strconv.Itoa(c.b)
		for _, s := range []string{
			"thread t\nset r1 " + a + "\nset r2 " + b + "\n" + c.op + " r3 r1 r2",
			"thread t\nset r1 " + a + "\nset r2 " + b + "\n" + c.op + " r3 " + a + " " + b,
		} {
			m := start(t, s)
			for range 3 {
				step(t, m, api.Event{Kind: api.Local})
			}
			show(t, "B2", m, "t at 3 0 "+a+" "+b+" "+strconv.Itoa(c.want))
		}
	}
	m := start(t, "thread t\nset r0 7\nset r3 r0\nadd r0 r0 r0\nsub r3 r3 r0")
	steps(t, m, 0, 0, 0, 0)
	show(t, "B2", m, "t at 4 14 0 0 993")
}

func TestVariablesAndFlags(t *testing.T) {
	m := start(t, "var x y\nflag f g\nthread t\nset r1 42\nstore y r1\nput f 999\nload r0 x\nload r2 y\nget r3 f\nget r1 g\nstore x 7\nput g r3\nload r0 x")
	steps(t, m, 0)
	step(t, m, api.Event{Kind: api.Write, Obj: 1, Value: 42})
	show(t, "B2", m, "x=0", "y=42", "f=0", "g=0", "t at 2 0 42 0 0")
	step(t, m, api.Event{Kind: api.Put, Obj: 0, Value: 999})
	step(t, m, api.Event{Kind: api.Read, Obj: 0, Value: 0})
	step(t, m, api.Event{Kind: api.Read, Obj: 1, Value: 42})
	step(t, m, api.Event{Kind: api.Get, Obj: 0, Value: 999})
	step(t, m, api.Event{Kind: api.Get, Obj: 1, Value: 0})
	step(t, m, api.Event{Kind: api.Write, Obj: 0, Value: 7})
	step(t, m, api.Event{Kind: api.Put, Obj: 1, Value: 999})
	step(t, m, api.Event{Kind: api.Read, Obj: 0, Value: 7})
	show(t, "B2", m, "x=7", "y=42", "f=999", "g=999", "t at 10 7 0 42 999")
	step(t, m, api.Event{Kind: api.End})
	show(t, "B4", m, "x=7", "y=42", "f=999", "g=999", "t ended 7 0 42 999")
}

func TestRegistersAreAThreadsOwn(t *testing.T) {
	m := start(t, "thread a\nset r0 1\nspawn b\nset r1 2\nthread b\nset r0 5\nset r3 6")
	steps(t, m, 0, 0, 1, 1, 0)
	show(t, "B2", m, "a at 3 1 2 0 0", "b at 2 5 0 0 6")
}

func TestLocks(t *testing.T) {
	m := start(t, "lock m n\nthread a\nspawn b\nlock n\nlock n\nthread b\nlock m\nlock n\nunlock n\nunlock m\nlock m\nunlock m")
	steps(t, m, 0)
	step(t, m, api.Event{Kind: api.Lock, Obj: 1})
	show(t, "B2", m, "m=-", "n=a", "a at 2 0 0 0 0", "b at 0 0 0 0 0")
	refused(t, m, 0, api.ErrWait) // its own lock, too
	step(t, m, api.Event{Thread: 1, Kind: api.Lock, Obj: 0})
	show(t, "B2", m, "m=b", "n=a", "a at 2 0 0 0 0", "b at 1 0 0 0 0")
	refused(t, m, 1, api.ErrWait)
	if m.Ready() != nil {
		t.Errorf("B3: Ready() = %v", m.Ready())
	}
	m = start(t, "lock m n\nthread a\nspawn b\nlock m\nunlock m\nlock n\nend\nthread b\nlock m\nunlock m\nlock n")
	steps(t, m, 0, 0)
	refused(t, m, 1, api.ErrWait)
	step(t, m, api.Event{Kind: api.Unlock, Obj: 0})
	show(t, "B2", m, "m=-", "n=-", "a at 3 0 0 0 0", "b at 0 0 0 0 0")
	step(t, m, api.Event{Thread: 1, Kind: api.Lock, Obj: 0})
	step(t, m, api.Event{Thread: 1, Kind: api.Unlock, Obj: 0})
	steps(t, m, 0, 0)
	show(t, "B2", m, "m=-", "n=a", "a ended 0 0 0 0", "b at 2 0 0 0 0")
	refused(t, m, 1, api.ErrWait) // what a thread holds when it ends it holds from then on
}

func TestLocksOfAThreadThatFails(t *testing.T) {
	m := start(t, "lock m\nthread a\nspawn b\nlock m\ncheck 0 1\nthread b\nunlock m\nend\nthread c")
	steps(t, m, 0, 0)
	step(t, m, api.Event{Kind: api.Fail})
	show(t, "B2", m, "m=a", "a failed 0 0 0 0", "b at 0 0 0 0 0", "c new")
	step(t, m, api.Event{Thread: 1, Kind: api.Fail}) // a's lock is not b's to let go
	show(t, "B2", m, "m=a", "a failed 0 0 0 0", "b failed 0 0 0 0", "c new")
	refused(t, m, 0, api.ErrDone)
	refused(t, m, 1, api.ErrDone)
	refused(t, m, 2, api.ErrNone)
}

func TestUnlockOfWhatNobodyHolds(t *testing.T) {
	m := start(t, "lock m n\nthread a\nset r2 3\nunlock n\nend")
	steps(t, m, 0)
	step(t, m, api.Event{Kind: api.Fail}) // Obj 0, though it is lock 1
	show(t, "B2", m, "m=-", "n=-", "a failed 0 0 3 0")
	refused(t, m, 0, api.ErrDone)
	m = start(t, "lock m\nthread a\nlock m\nunlock m\nunlock m")
	steps(t, m, 0, 0)
	step(t, m, api.Event{Kind: api.Fail})
	show(t, "B2", m, "m=-", "a failed 0 0 0 0")
}

func TestSpawnAndJoin(t *testing.T) {
	m := start(t, "thread a\nspawn c\njoin c\nspawn c\nthread b\nthread c\nset r0 1\nspawn b\njoin b")
	step(t, m, api.Event{Kind: api.Spawn, Obj: 2})
	show(t, "B2", m, "a at 1 0 0 0 0", "b new", "c at 0 0 0 0 0")
	refused(t, m, 0, api.ErrWait)
	steps(t, m, 2)
	step(t, m, api.Event{Thread: 2, Kind: api.Spawn, Obj: 1})
	refused(t, m, 2, api.ErrWait)
	if r := m.Ready(); !slices.Equal(r, []int{1}) {
		t.Errorf("B3: Ready() = %v", r)
	}
	step(t, m, api.Event{Thread: 1, Kind: api.End})
	step(t, m, api.Event{Thread: 2, Kind: api.Join, Obj: 1})
	step(t, m, api.Event{Thread: 2, Kind: api.End})
	step(t, m, api.Event{Kind: api.Join, Obj: 2})
	refused(t, m, 0, api.ErrWait) // c has begun, even if it has ended
	show(t, "B2", m, "a at 2 0 0 0 0", "b ended 0 0 0 0", "c ended 1 0 0 0")
}

func TestSpawnAndJoinThatWaitForEver(t *testing.T) {
	for _, s := range []string{"spawn a", "join a", "join b"} { // itself, or one that nobody lets begin
		refused(t, start(t, "thread a\n"+s+"\nthread b"), 0, api.ErrWait)
	}
	m := start(t, "thread a\nspawn b\njoin b\njoin b\nthread b\ncheck 1 2")
	steps(t, m, 0)
	step(t, m, api.Event{Thread: 1, Kind: api.Fail})
	step(t, m, api.Event{Kind: api.Join, Obj: 1}) // to fail is to end
	step(t, m, api.Event{Kind: api.Join, Obj: 1}) // and it may be joined again
}

func TestJumps(t *testing.T) {
	for _, c := range []struct {
		line string
		to   int
	}{
		{"jump l", 4}, {"jump top", 0}, {"jump out", 5}, {"jeq 5 r0 l", 4}, {"jeq r0 5 top", 0}, {"jeq r0 4 l", 2}, {"jeq 1 2 top", 2},
		{"jlt 4 r0 l", 4}, {"jlt 5 r0 l", 2}, {"jlt r0 5 l", 2}, {"jlt r0 6 out", 5}, {"jlt 6 r0 l", 2}, {"jlt 0 999 top", 0}, {"jlt 999 0 top", 2},
	} {
		m := start(t, "thread a\ntop:\nset r0 5\n"+c.line+"\nend\nend\nl:\nend\nout:")
		steps(t, m, 0)
		step(t, m, api.Event{Kind: api.Local})
		show(t, "B2: "+c.line, m, "a at "+strconv.Itoa(c.to)+" 5 0 0 0")
	}
	m := start(t, "thread a\njump a\na:")
	steps(t, m, 0)
	show(t, "B4", m, "a at 1 0 0 0 0")
	step(t, m, api.Event{Kind: api.End})
	show(t, "B4", m, "a ended 0 0 0 0")
}

func TestCheckAndEnd(t *testing.T) {
	m := start(t, "thread a\nset r1 3\ncheck r1 3\ncheck 3 r1\ncheck r1 r0\nend")
	steps(t, m, 0)
	step(t, m, api.Event{Kind: api.Local})
	step(t, m, api.Event{Kind: api.Local})
	step(t, m, api.Event{Kind: api.Fail})
	show(t, "B2", m, "a failed 0 3 0 0")
	refused(t, m, 0, api.ErrDone)
	for _, s := range []string{"thread a", "thread a\nend", "thread a\nend\nset r0 1"} {
		m := start(t, s)
		step(t, m, api.Event{Kind: api.End})
		show(t, "B2", m, "a ended 0 0 0 0")
		refused(t, m, 0, api.ErrDone)
	}
	m = start(t, "thread a\n"+strings.Repeat("set r0 r0\n", 24))
	for range 24 {
		step(t, m, api.Event{Kind: api.Local})
	}
	show(t, "B4", m, "a at 24 0 0 0 0")
	step(t, m, api.Event{Kind: api.End})
	refused(t, m, 0, api.ErrDone)
}

func TestFullMachine(t *testing.T) {
	m := start(t, "var a b c d\nflag e f g h\nlock i j k l\nthread m\nspawn p\nstore d 9\nput h 8\nlock l\njoin p\nthread n\nthread o\nthread p\nset r3 1")
	steps(t, m, 0, 0, 0, 0, 3)
	show(t, "B4", m, "a=0", "b=0", "c=0", "d=9", "e=0", "f=0", "g=0", "h=8", "i=-", "j=-", "k=-", "l=m",
		"m at 4 0 0 0 0", "n new", "o new", "p at 1 0 0 0 1")
	if r := m.Ready(); !slices.Equal(r, []int{3}) {
		t.Errorf("B3: Ready() = %v", r)
	}
}

func TestReadyRises(t *testing.T) {
	m := start(t, "thread a\nspawn d\nspawn b\nthread b\nthread c\nthread d\nspawn c")
	steps(t, m, 0, 0, 3)
	if r := m.Ready(); !slices.Equal(r, []int{0, 1, 2, 3}) {
		t.Errorf("B3: Ready() = %v", r)
	}
	steps(t, m, 1)
	if r := m.Ready(); !slices.Equal(r, []int{0, 2, 3}) {
		t.Errorf("B3: Ready() = %v", r)
	}
}

func TestRun(t *testing.T) {
	p := load(t, "var x\nthread a\nspawn b\nstore x 1\nthread b\nload r0 x")
	schedule := []int{1, 0, 7, 1, -3, 0, 0, 0, 1, 1}
	want := []api.Event{{Kind: api.Spawn, Obj: 1}, {Thread: 1, Kind: api.Read}, {Kind: api.Write, Value: 1}, {Kind: api.End}, {Thread: 1, Kind: api.End}}
	l, s := run.Run(p, schedule)
	if !slices.Equal(l, want) || s != "x=1\na ended 0 0 0 0\nb ended 0 0 0 0\n" {
		t.Errorf("B3: %v, %q", l, s)
	}
	if !slices.Equal(schedule, []int{1, 0, 7, 1, -3, 0, 0, 0, 1, 1}) {
		t.Errorf("G4: the schedule is %v", schedule)
	}
	for _, none := range [][]int{nil, {}, {5}} {
		if l, s := run.Run(p, none); l != nil || s != "x=0\na at 0 0 0 0 0\nb new\n" {
			t.Errorf("B3: %v: %v, %q", none, l, s)
		}
	}
	again, _ := run.Run(p, schedule)
	clear(l)
	if !slices.Equal(again, want) {
		t.Error("G4: two answers share memory")
	}
}

// A loop without an end is no call without an end: its schedule is.
func TestLongSchedule(t *testing.T) {
	l, s := run.Run(load(t, "thread a\nl:\nadd r0 r0 1\njump l"), make([]int, 200001))
	if len(l) != 200001 || s != "a at 1 1 0 0 0\n" {
		t.Errorf("G1: %d events, %q", len(l), s)
	}
}

const busy = "var x y\nflag f\nlock m\nthread a\nspawn b\nlock m\nadd r0 r0 5\nstore y r0\nput f 3\nunlock m\ncheck r0 4\nthread b\nl:\nload r1 y\nlock m\nunlock m\njump l"

func TestProgramIsNeitherChangedNorKept(t *testing.T) {
	p, same := load(t, busy), load(t, busy)
	m, twin := run.New(p), run.New(same)
	steps(t, m, 0, 0)
	steps(t, twin, 0, 0)
	if !reflect.DeepEqual(p, same) {
		t.Errorf("G4: New and Step made %v of %v", p, same)
	}
	for _, l := range [][]string{p.Vars, p.Flags, p.Locks} {
		clear(l)
	}
	for i := range p.Threads {
		clear(p.Threads[i].Code)
	}
	clear(p.Threads)
	for _, th := range []int{0, 0, 1, 0, 0, 1, 0, 0, 1, 1} {
		e, errno := m.Step(th)
		if twinE, twinErrno := twin.Step(th); e != twinE || errno != twinErrno {
			t.Errorf("B1: a change of the program is seen: %v, %d, not %v, %d", e, errno, twinE, twinErrno)
		}
	}
	if m.Show() != twin.Show() || !strings.Contains(m.Show(), "failed") {
		t.Errorf("B1: a change of the program is seen: %q, not %q", m.Show(), twin.Show())
	}
	run.Run(same, []int{0, 0, 0, 1})
	if !reflect.DeepEqual(same, load(t, busy)) {
		t.Error("G4: Run changes its program")
	}
}

func TestCopiesShareNothing(t *testing.T) {
	m := start(t, busy)
	steps(t, m, 0, 0, 0)
	c := m.Copy()
	before := m.Show()
	if c.Show() != before || !slices.Equal(c.Ready(), m.Ready()) {
		t.Fatalf("B1: a copy is %q, %v, not %q, %v", c.Show(), c.Ready(), before, m.Ready())
	}
	steps(t, m, 0, 0, 0, 0, 1, 1)
	if c.Show() != before {
		t.Errorf("B1: the copy went on with its machine: %q", c.Show())
	}
	after := m.Show()
	steps(t, c, 0, 1)
	if m.Show() != after {
		t.Errorf("B1: the machine went on with its copy: %q", m.Show())
	}
	steps(t, c, 0, 0, 0, 1)
	d := c.Copy().Copy()
	if c.Show() != d.Show() {
		t.Errorf("B1: a copy's copy is %q, not %q", d.Show(), c.Show())
	}
}

func TestReadyIsNewMemory(t *testing.T) {
	m := start(t, busy)
	steps(t, m, 0)
	first, second := m.Ready(), m.Ready()
	first[0], first[1] = 7, 7
	if !slices.Equal(second, []int{0, 1}) || !slices.Equal(m.Ready(), []int{0, 1}) {
		t.Errorf("G4: %v, %v", second, m.Ready())
	}
}
