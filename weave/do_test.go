package weave_test

import (
	"math/rand"
	"slices"
	"strconv"
	"strings"
	"testing"

	"weave/api"
	"weave/code"
	"weave/order"
	"weave/run"
	"weave/weave"
)

const (
	example = "var x\nthread a\nspawn b\nstore x 1\nthread b\nload r0 x"
	locked  = "var x\nlock m\nthread a\nspawn b\nlock m\nstore x 1\nunlock m\nthread b\nlock m\nload r0 x\nunlock m"
	forgets = "var x\nlock m\nthread a\nspawn b\nlock m\nstore x 1\nunlock m\nthread b\nlock m\nload r0 x"
	racing  = "var x\nthread a\nspawn b\nload r0 x\nadd r0 r0 1\nstore x r0\njoin b\nthread b\nload r0 x\nadd r0 r0 1\nstore x r0"
	endless = "thread a\nl:\njump l"
	kinds   = "var x y\nflag f\nlock m\nthread a\nset r0 5\nload r0 y\nstore y 7\nget r1 f\nput f 8\nlock m\nunlock m\nspawn b\njoin b\nunlock m\nthread b"
)

// large has 20000 states, huge one more.
var (
	large = "thread a\n" + loop
	huge  = "var x y\nthread a\nset r1 0\n" + loop
	loop  = "l:\nadd r0 r0 1\n" + strings.Repeat("set r1 0\n", 18) + "jump l\n"
)

func do(t *testing.T, program string, lines ...string) []string {
	t.Helper()
	l, errno, line := weave.Do(program, lines)
	if errno != api.OK || line != 0 || len(l) != len(lines) {
		t.Fatalf("K1: Do(%q, %q) = %q, %d, %d", program, lines, l, errno, line)
	}
	return l
}

// TestLines has each kind of line.
func TestLines(t *testing.T) {
	for _, c := range []struct{ program, line, want string }{
		{example, "SHOW -", "x=0;a at 0 0 0 0 0;b new;"},
		{example, "SHOW 0", "x=0;a at 1 0 0 0 0;b at 0 0 0 0 0;"},
		{example, "SHOW 0,0,1", "x=1;a at 2 0 0 0 0;b at 1 1 0 0 0;"},
		{example, "SHOW 1,2,999,000", "x=0;a at 1 0 0 0 0;b at 0 0 0 0 0;"}, // steps with errors do nothing
		{example, "SHOW 00,0,001", "x=1;a at 2 0 0 0 0;b at 1 1 0 0 0;"},
		{example, "SHOW 0,0,0,1,1", "x=1;a ended 0 0 0 0;b ended 1 0 0 0;"},
		{locked, "SHOW 0,0", "x=0;m=a;a at 2 0 0 0 0;b at 0 0 0 0 0;"},
		{"thread a\ncheck 0 1", "SHOW 0", "a failed 0 0 0 0;"},
		{"", "SHOW -", ""},
		{"", "SHOW 0", ""},
		{"var x\nflag f\nlock m", "SHOW 0", "x=0;f=0;m=-;"},

		{example, "EVENTS -", "-"},
		{example, "EVENTS 1", "-"},
		{"", "EVENTS 0,1,2", "-"},
		{example, "EVENTS 0", "0.7.1.0"},
		{example, "EVENTS 0,0,1", "0.7.1.0 0.2.0.1 1.1.0.1"},
		{example, "EVENTS 0,7,1,1,1,0", "0.7.1.0 1.1.0.0 1.10.0.0 0.2.0.1"},
		{kinds, "EVENTS 0,0,0,0,0,0,0,0,0,1,0,0,0",
			"0.0.0.0 0.1.1.0 0.2.1.7 0.3.0.0 0.4.0.8 0.5.0.0 0.6.0.0 0.7.1.0 1.10.0.0 0.8.1.0 0.9.0.0"},

		{example, "RACES -", "-"},
		{example, "RACES 0,0", "-"},
		{example, "RACES 0,0,1", "1-2"},
		{example, "RACES 0,9,1,0", "1-2"}, // numbers of events, not of steps
		{locked, "RACES 0,0,0,0,1,1", "-"},
		{"var x\nthread a\nspawn b\nstore x 1\nstore x 2\nthread b\nstore x 3\nload r0 x", "RACES 0,0,1,0,1", "1-2 2-3 1-4 3-4"},

		{example, "FIRST x -", "-1"},
		{example, "FIRST x 0,0", "-1"},
		{example, "FIRST x 0,1,0", "2"},
		{example, "FIRST x 9,0,9,1,9,0", "2"},
		{"var x y\nthread a\nspawn b\nstore x 1\nstore y 2\nthread b\nload r0 y\nload r0 x", "FIRST x 0,0,0,1,1", "4"},
		{"var x y\nthread a\nspawn b\nstore x 1\nstore y 2\nthread b\nload r0 y\nload r0 x", "FIRST y 0,0,0,1,1", "3"},

		{example, "OUTCOMES", "x=1"},
		{racing, "OUTCOMES", "x=1;x=2"},
		{forgets, "OUTCOMES", "x=0 stuck;x=1"},
		{"", "OUTCOMES", ""},
		{endless, "OUTCOMES", ""},
		{"thread a\nspawn a", "OUTCOMES", "stuck"},
		{"var x\nflag f\nthread a\nspawn b\nput f 1\nthread b\nput f 2", "OUTCOMES", "x=0 f=1;x=0 f=2"},

		{example, "STATES", "14"},
		{"", "STATES", "1"},
		{"thread a\nspawn a", "STATES", "1 stuck"},
		{"thread a\ncheck 0 1", "STATES", "2 failed"},
		{"thread a\nspawn b\nspawn a\nthread b\ncheck 0 1", "STATES", "3 stuck failed"},
		{large, "STATES", "20000"},

		{example, "RACY", "x"},
		{locked, "RACY", "-"},
		{forgets, "RACY", "-"},
		{"", "RACY", "-"},
		{"var b a c\nthread t\nspawn u\nstore c 1\nstore b 1\nstore a 1\nthread u\nstore c 2\nstore b 2\nload r0 a", "RACY", "b a c"},
		{"var b a c\nthread t\nspawn u\nload r0 b\nstore c 1\nthread u\nload r0 b\nstore c 1", "RACY", "c"},

		{locked, "HOW x", "never"},
		{"var x y\nthread a\nspawn b\nstore x 1\nthread b\nstore y 1", "HOW y", "never"},
	} {
		if got := do(t, c.program, c.line)[0]; got != c.want {
			t.Errorf("K1: %q: %q is answered %q, want %q", c.program, c.line, got, c.want)
		}
	}
	if l := do(t, forgets, "STATES"); !strings.HasSuffix(l[0], " stuck") {
		t.Errorf("K1: STATES of %q is answered %q", forgets, l[0])
	}
}

// TestHow plays what is answered.
func TestHow(t *testing.T) {
	for _, c := range []struct{ program, name string }{
		{example, "x"},
		{racing, "x"},
		{"var y x\nthread a\nspawn b\nspawn c\nspawn d\nthread b\nload r0 x\nthread c\nload r0 x\nthread d\nset r0 1\nstore x 1", "x"},
		{"var y x\nthread a\nspawn b\nl:\nstore x 1\nstore y 1\njump l\nthread b\nl:\nload r0 y\njump l", "y"},
	} {
		p, _, _ := code.Parse(c.program)
		answer := do(t, c.program, "HOW "+c.name)[0]
		var schedule []int
		for digits := range strings.SplitSeq(answer, ",") {
			n, err := strconv.Atoi(digits)
			if err != nil {
				t.Fatalf("K1: %q: HOW %s is answered %q", c.program, c.name, answer)
			}
			schedule = append(schedule, n)
		}
		events, _ := run.Run(p, schedule)
		raced := slices.ContainsFunc(order.Races(events), func(r api.Pair) bool { return p.Vars[events[r.J].Obj] == c.name })
		if len(events) != len(schedule) || !raced {
			t.Errorf("K1: %q: HOW %s is answered %q, of which the events are %v", c.program, c.name, answer, events)
		}
		if n := do(t, c.program, "FIRST "+c.name+" "+answer)[0]; n == "-1" || strings.HasPrefix(n, "ERR") {
			t.Errorf("K1: %q: HOW %s is answered %q, and the first race by that %s", c.program, c.name, answer, n)
		}
	}
}

// TestOtherLines: what is no line is told so, even if there are too many states, or a name that no variable has.
func TestOtherLines(t *testing.T) {
	lines := []string{
		"", " ", "-", "x", "0,0", "FOO", "show -", "Show -", "SHOWS -", "SHO -", "SHOW", "EVENTS", "RACES", "FIRST", "FIRST x", "FIRST -", "HOW",
		"SHOW ", "SHOW  -", " SHOW -", "SHOW - ", "SHOW\t-", "SHOW -\n", "\nSHOW -", "SHOW -\r", "SHOW - -", "SHOW 0 0", "SHOW x", "SHOW x -", "SHOW-",
		"SHOW --", "SHOW -,0", "SHOW 0,-", "SHOW 0,", "SHOW ,0", "SHOW ,", "SHOW 0,,0", "SHOW 1000", "SHOW 0000", "SHOW 0,1000", "SHOW -1", "SHOW +1",
		"SHOW 0, 1", "SHOW 0;1", "SHOW 0.1", "SHOW 0x1", "SHOW a", "SHOW 1a", "SHOW \x00", "SHOW \xff", "SHOW ٣", "SHOW 1_0", "SHOW 1e1",
		"EVENTS a", "EVENTS 0,", "EVENTS - -", "RACES a", "RACES 0,", "RACES - x",
		"FIRST x a", "FIRST x 0,", "FIRST y a", "FIRST y 1000", "FIRST - x", "FIRST x - -", "FIRST x  -", "FIRST  x -", "FIRST  -", "FIRST x -\n",
		"OUTCOMES ", " OUTCOMES", "OUTCOMES x", "OUTCOMES -", "outcomes", "STATES x", "STATES -", "STATES\n", "RACY x", "RACY -", "RACY ",
		"HOW ", "HOW x ", "HOW  x", "HOW x -", "HOW x y", "how x", "HOW x -\x00 -", strings.Repeat("SHOW ", 1000), "SHOW " + strings.Repeat("0", 5000),
		"SHOW " + strings.Repeat("0,", 5000), strings.Repeat(" ", 100000),
	}
	for _, program := range []string{example, "", huge} {
		for i, got := range do(t, program, lines...) {
			if got != "ERR 2" {
				t.Errorf("K1: %q: %q is answered %q", program, lines[i], got)
			}
		}
	}
}

// TestNames: a name must be a variable's.
func TestNames(t *testing.T) {
	program := "var x y\nflag f\nlock m\nthread a\nspawn b\nstore y 1\nthread b\nstore y 2"
	for _, name := range []string{"z", "f", "m", "a", "b", "X", "xx", "x1", "x,y", "-", "0", "r0", "\xff", "abcdefghijklm"} {
		for _, line := range []string{"HOW " + name, "FIRST " + name + " -", "FIRST " + name + " 0,0,1"} {
			if got := do(t, program, line)[0]; got != "ERR 5" {
				t.Errorf("K1: %q is answered %q", line, got)
			}
		}
	}
	want := []string{"never", "-1", "2"}
	if got := do(t, program, "HOW x", "FIRST x 0,0,1", "FIRST y 0,0,1"); !slices.Equal(got, want) {
		t.Errorf("K1: %q, want %q", got, want)
	}
}

// TestTooMany: all runs are too many, single ones are answered all the same.
func TestTooMany(t *testing.T) {
	lines := []string{"OUTCOMES", "STATES", "RACY", "HOW x", "HOW y", "HOW z", "FIRST x 0", "FIRST z 0", "SHOW -", "EVENTS 0", "RACES 0", "STATES", "FOO"}
	want := []string{"ERR 4", "ERR 4", "ERR 4", "ERR 4", "ERR 4", "ERR 5", "-1", "ERR 5", "x=0;y=0;a at 0 0 0 0 0;", "0.0.0.0", "-", "ERR 4", "ERR 2"}
	if got := do(t, huge, lines...); !slices.Equal(got, want) {
		t.Errorf("K1: %q are answered %q, want %q", lines, got, want)
	}
	raced := "var x\nthread a\nspawn b\nload r0 x\nstore x 1\njeq r0 0 out\n" + loop + "out:\nthread b\nstore x 1\n"
	if got := do(t, raced, "HOW x", "RACY"); got[0] != "ERR 4" || got[1] != "ERR 4" {
		t.Errorf("K1: HOW and RACY are answered %q, and there are too many states", got)
	}
}

// TestUnread: a program that cannot be read.
func TestUnread(t *testing.T) {
	for _, c := range []struct {
		program string
		errno   api.Errno
		line    int
	}{
		{strings.Repeat(" ", 3001), api.ErrLong, 0},
		{strings.Repeat("\xff", 100000), api.ErrLong, 0},
		{"\nfoo", api.ErrForm, 2},
		{"var x\nthread a\nstore x\n", api.ErrForm, 3},
		{"var x\n\n\nlock x", api.ErrTwice, 4},
		{"var a b c d e", api.ErrMany, 1},
		{"thread a\nload r0 x", api.ErrNone, 2},
		{"thread a\n\nspawn b\n", api.ErrNone, 3},
	} {
		for _, lines := range [][]string{nil, {"STATES"}, {"SHOW -", "FOO"}} {
			if l, errno, line := weave.Do(c.program, lines); l != nil || errno != c.errno || line != c.line {
				t.Errorf("K1: Do(%q, %q) = %q, %d, %d, want %d, %d", c.program, lines, l, errno, line, c.errno, c.line)
			}
		}
	}
	if l, errno, line := weave.Do(strings.Repeat(" ", 3000), []string{"STATES"}); errno != api.OK || line != 0 || !slices.Equal(l, []string{"1"}) {
		t.Errorf("K1: of 3000 blanks: %q, %d, %d", l, errno, line)
	}
}

func TestNoLines(t *testing.T) {
	for _, lines := range [][]string{nil, {}} {
		if l, errno, line := weave.Do(example, lines); l != nil || errno != api.OK || line != 0 {
			t.Errorf("K1: %v, %d, %d", l, errno, line)
		}
	}
}

// TestAnyLines: whatever bytes a line has, it is answered, and by itself: not by the lines around it.
func TestAnyLines(t *testing.T) {
	rnd := rand.New(rand.NewSource(29))
	bits := []string{"SHOW", "EVENTS", "RACES", "FIRST", "OUTCOMES", "STATES", "RACY", "HOW", " ", " ", " ", "x", "y", "-", ",", "0", "1", "0,0,1", "999", "\n", "\xff"}
	lines := make([]string, 1000)
	for i := range lines {
		for range rnd.Intn(6) {
			lines[i] += bits[rnd.Intn(len(bits))]
		}
	}
	good := 0
	all := do(t, racing, lines...)
	for i, line := range lines {
		if got := do(t, racing, line)[0]; got != all[i] {
			t.Fatalf("K1: %q is answered %q among others, and %q alone", line, all[i], got)
		}
		if !strings.HasPrefix(all[i], "ERR ") {
			good++
		}
	}
	if good < 20 {
		t.Errorf("only %d lines are some: they have lost their use", good)
	}
}

// TestOnce: all runs are gone through once at most, however many lines ask for what they do. (To tell a schedule for a
// variable they are gone through again, once for each.)
func TestOnce(t *testing.T) {
	program := "var x\nthread a\nspawn b\nspawn c\n" + strings.Repeat("set r0 1\n", 10) + "store x 1\nthread b\n" + strings.Repeat("set r0 2\n", 10) + "load r0 x\nthread c\nstore x 2"
	cost := func(lines ...string) float64 {
		return testing.AllocsPerRun(3, func() { do(t, program, lines...) })
	}
	once := cost("STATES")
	if many := cost(slices.Repeat([]string{"STATES", "OUTCOMES", "RACY"}, 100)...); many > 1.5*once {
		t.Errorf("300 lines ask for %v pieces of memory, one for %v: all runs are gone through again", many, once)
	}
	if many := cost(slices.Repeat([]string{"HOW x", "RACY"}, 100)...); many > 2.5*once {
		t.Errorf("200 lines ask for %v pieces of memory, one for %v: all runs are gone through again", many, once)
	}
	if none := cost("SHOW 0", "FOO", "HOW z", "STATES x", "FIRST x 0", "-"); none > once/10 {
		t.Errorf("lines that do not ask for all runs ask for %v pieces of memory, one that does for %v", none, once)
	}
}

// TestNewMemory: lines are neither changed nor kept, and answers share nothing (G4).
func TestNewMemory(t *testing.T) {
	lines := []string{"SHOW 0", "OUTCOMES", "FOO"}
	first := do(t, racing, lines...)
	if !slices.Equal(lines, []string{"SHOW 0", "OUTCOMES", "FOO"}) {
		t.Fatalf("G4: the lines are %q now", lines)
	}
	want := slices.Clone(first)
	clear(lines)
	if !slices.Equal(first, want) {
		t.Fatalf("G4: %q, and it was %q", first, want)
	}
	second := do(t, racing, "SHOW 0", "OUTCOMES", "FOO")
	clear(first[:cap(first)])
	if third := do(t, racing, "SHOW 0", "OUTCOMES", "FOO"); !slices.Equal(second, want) || !slices.Equal(third, want) {
		t.Errorf("G4: %q, %q, want %q", second, third, want)
	}
}
