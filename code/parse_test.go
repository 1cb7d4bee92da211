package code_test

import (
	"reflect"
	"slices"
	"strings"
	"testing"

	"weave/api"
	"weave/code"
)

// head lays out one thing of each kind; what follows it begins with line 5.
const head = "var x\nflag f\nlock m\nthread t\n"

func mustParse(t *testing.T, s string) api.Program {
	t.Helper()
	p, e, line := code.Parse(s)
	if e != api.OK || line != 0 {
		t.Fatalf("Parse(%q) = %d, line %d", s, e, line)
	}
	return p
}

// refuse asks for an error and its line, and for a program without anything.
func refuse(t *testing.T, promise, s string, e api.Errno, line int) {
	t.Helper()
	p, gotE, gotLine := code.Parse(s)
	if gotE != e || gotLine != line {
		t.Errorf("%s: Parse(%q) = %d, line %d, want %d, line %d", promise, s, gotE, gotLine, e, line)
	}
	if !reflect.DeepEqual(p, api.Program{}) {
		t.Errorf("G2: Parse(%q) answered %v with an error", s, p)
	}
}

func accept(t *testing.T, promise, s string) {
	t.Helper()
	if _, e, line := code.Parse(s); e != api.OK || line != 0 {
		t.Errorf("%s: Parse(%q) = %d, line %d, want none", promise, s, e, line)
	}
}

func TestWordsAndComments(t *testing.T) {
	want := mustParse(t, "var x y\nthread a\nset r0 1\nl:\nstore y r0\njump l")
	for _, s := range []string{
		"\n\nvar x y\n\nthread a\n\nset r0 1\nl:\n\nstore y r0\njump l\n\n",
		"  var   x  y  \n thread  a \n   set r0    1\n   l:   \n store  y r0\n  jump l ",
		"# what\nvar x y#z\nthread a # b\n#\n  ## set r9\nset r0 1# 2 # 3\nl:#:\nstore y r0 #\njump l",
		"var x\nvar y\nthread a\nset r0 001\nl:\nstore y r0\njump l",
		"# \t\r\x00\xff\nvar x y\nthread a\nset r0 1\nl:\nstore y r0\njump l",
	} {
		if p := mustParse(t, s); !reflect.DeepEqual(p, want) {
			t.Errorf("A1: Parse(%q) = %v, want %v", s, p, want)
		}
	}
	for _, s := range []string{"\t", "var\tx", "var x\t", "var x\r", "\r", "\x00", "var x\u00a0", "var x\v", "\f", "\xff", "var é"} {
		refuse(t, "A1", "\n"+s+"\n", api.ErrForm, 2)
	}
}

func TestNoProgramAtAll(t *testing.T) {
	for _, s := range []string{"", "\n", " ", "#", "\n\n # thread a \n"} {
		if p := mustParse(t, s); !reflect.DeepEqual(p, api.Program{}) {
			t.Errorf("A2: Parse(%q) = %v", s, p)
		}
	}
}

// named lists a line for each place where a name may stand, with @ for the name.
var named = []string{
	"var @", "var x1 @", "flag @", "lock @", "thread @", "thread t\n@:",
	"var @\nthread t\nload r0 @", "var @\nthread t\nstore @ 1", "flag @\nthread t\nget r0 @", "flag @\nthread t\nput @ 1",
	"lock @\nthread t\nlock @", "lock @\nthread t\nunlock @",
	"thread @\nspawn @", "thread @\njoin @", "thread t\n@:\njump @", "thread t\n@:\njeq 0 0 @", "thread t\n@:\njlt 0 0 @",
}

func TestNames(t *testing.T) {
	good := []string{"a", "z", "a0", "z9", "abcdefgh", "a1234567", "r", "r4", "r9", "r00", "r10", "rr", "var", "flag", "lock", "thread", "set", "end"}
	bad := []string{"abcdefghi", "a12345678", "r0", "r1", "r2", "r3", "A", "aB", "0a", "9", "12", "a_b", "a-b", "a.", "é", "a\x00", "\xff", ":", "a:", ":a", "{", "`", "/", "a,b"}
	for _, form := range named {
		for _, name := range good {
			accept(t, "A1", strings.ReplaceAll(form, "@", name))
		}
		for _, name := range bad {
			s := strings.ReplaceAll(form, "@", name)
			if _, e, _ := code.Parse(s); e != api.ErrForm {
				t.Errorf("A1: Parse(%q) = %d, want ErrForm", s, e)
			}
		}
	}
}

// A name that has the wrong form where it is only asked for is no line at all, not a thing that is not there.
func TestFormOfNamesThatAreAskedFor(t *testing.T) {
	for _, form := range []string{"load r0 @", "store @ 1", "get r0 @", "put @ 1", "lock @", "unlock @", "spawn @", "join @", "jump @", "jeq 1 1 @", "jlt 1 1 @"} {
		for _, name := range []string{"r0", "r3", "X", "1", "abcdefghi", "a:"} {
			refuse(t, "A2", head+strings.ReplaceAll(form, "@", name), api.ErrForm, 5)
		}
		refuse(t, "A2", head+strings.ReplaceAll(form, "@", "abcdefgh"), api.ErrNone, 5)
	}
}

func TestArgs(t *testing.T) {
	for word, want := range map[string]api.Arg{
		"0": {N: 0}, "00": {N: 0}, "000": {N: 0}, "7": {N: 7}, "07": {N: 7}, "010": {N: 10}, "999": {N: 999},
		"r0": {Reg: true}, "r1": {Reg: true, N: 1}, "r2": {Reg: true, N: 2}, "r3": {Reg: true, N: 3},
	} {
		p := mustParse(t, head+"set r1 "+word+"\njlt r2 "+word+" l\nl:")
		wantCode := []api.Instr{{Op: "set", R: 1, A: want}, {Op: "jlt", A: api.Arg{Reg: true, N: 2}, B: want, X: 2}}
		if !slices.Equal(p.Threads[0].Code, wantCode) {
			t.Errorf("A2: of %q: %v, want %v", word, p.Threads[0].Code, wantCode)
		}
	}
	for _, word := range []string{"1000", "0000", "-1", "+1", "1a", "a", "x", "r", "r4", "r00", "R0", "0x1", "1.", "1_0", "٣"} {
		for _, form := range []string{"set r0 @", "add r0 @ 1", "add r0 1 @", "store x @", "put f @", "jeq @ 1 l", "jlt 1 @ l", "check @ 1", "check 1 @"} {
			refuse(t, "A1", head+strings.ReplaceAll(form, "@", word)+"\nl:", api.ErrForm, 5)
		}
	}
	for _, word := range []string{"r4", "0", "r", "x", "r00", "R0", "r-"} {
		for _, form := range []string{"set @ 1", "add @ 1 1", "sub @ 1 1", "mul @ 1 1", "load @ x", "get @ f"} {
			refuse(t, "A1", head+strings.ReplaceAll(form, "@", word), api.ErrForm, 5)
		}
	}
}

func TestEveryInstruction(t *testing.T) {
	r := func(n int) api.Arg { return api.Arg{Reg: true, N: n} }
	n := func(n int) api.Arg { return api.Arg{N: n} }
	lines := []struct {
		text string
		want api.Instr
	}{
		{"set r3 r2", api.Instr{Op: "set", R: 3, A: r(2)}},
		{"add r1 2 r3", api.Instr{Op: "add", R: 1, A: n(2), B: r(3)}},
		{"sub r2 r1 5", api.Instr{Op: "sub", R: 2, A: r(1), B: n(5)}},
		{"mul r0 7 8", api.Instr{Op: "mul", A: n(7), B: n(8)}},
		{"load r2 y", api.Instr{Op: "load", R: 2, X: 1}},
		{"store y 9", api.Instr{Op: "store", A: n(9), X: 1}},
		{"get r1 h", api.Instr{Op: "get", R: 1, X: 2}},
		{"put h r3", api.Instr{Op: "put", A: r(3), X: 2}},
		{"lock q", api.Instr{Op: "lock", X: 3}},
		{"unlock q", api.Instr{Op: "unlock", X: 3}},
		{"spawn b", api.Instr{Op: "spawn", X: 1}},
		{"join b", api.Instr{Op: "join", X: 1}},
		{"jump out", api.Instr{Op: "jump", X: 17}},
		{"jeq r1 2 top", api.Instr{Op: "jeq", A: r(1), B: n(2)}},
		{"jlt 3 r2 mid", api.Instr{Op: "jlt", A: n(3), B: r(2), X: 16}},
		{"check r1 r2", api.Instr{Op: "check", A: r(1), B: r(2)}},
		{"end", api.Instr{Op: "end"}},
	}
	text := "lock m n\nvar x y\nflag f g\nflag h\nlock o q\nthread a\ntop:\n"
	want := api.Program{Vars: []string{"x", "y"}, Flags: []string{"f", "g", "h"}, Locks: []string{"m", "n", "o", "q"}, Threads: []api.Thread{{Name: "a"}, {Name: "b"}}}
	for i, l := range lines {
		if i == 16 {
			text += "mid:\n"
		}
		text += l.text + "\n"
		want.Threads[0].Code = append(want.Threads[0].Code, l.want)
	}
	if p := mustParse(t, text+"out:\nthread b"); !reflect.DeepEqual(p, want) {
		t.Errorf("A2: %v, want %v", p, want)
	}
	ahead := "lock m q\nvar x y\nflag h\nthread b\nthread a\ntop:\nmid:\nout:\n"
	for _, l := range lines {
		words := strings.Fields(l.text)
		accept(t, "A1", ahead+l.text)
		refuse(t, "A1", ahead+l.text+" 1", api.ErrForm, 9)
		refuse(t, "A1", ahead+l.text+" a", api.ErrForm, 9)
		refuse(t, "A1", ahead+strings.ToUpper(words[0])+l.text[len(words[0]):], api.ErrForm, 9)
		for k := 1; k < len(words); k++ {
			refuse(t, "A1", ahead+strings.Join(words[:k], " "), api.ErrForm, 9)
		}
		if words[0] != "lock" { // which is another line there
			refuse(t, "A2", l.text+"\nthread a", api.ErrForm, 1)
		}
	}
}

func TestWhereLinesMayStand(t *testing.T) {
	for _, s := range []string{"var y", "flag y", "var x", "var", "flag", "lock", "lock m m", "lock m n", "thread", "thread b c", "thread r1", "l :", "l: end", "l:l:", "nothing", "Thread b", "thread:b"} {
		refuse(t, "A2", head+s, api.ErrForm, 5)
	}
	for _, s := range []string{"l:", "end", "set r0 1", "unlock m", "var", "flag", "lock", "thread", "var:", "lock: a", "jump l"} {
		refuse(t, "A2", s+"\nlock m\nthread a\nl:", api.ErrForm, 1)
	}
	accept(t, "A1", "lock m\nflag f\nvar x\nlock n\nvar y\nthread a\nlock m\nthread b\nlock n")
	accept(t, "A1", head+"var:\nlock:\nthread:\nend:\njump var\njump lock\njump thread\njump end")
}

func TestLabels(t *testing.T) {
	p := mustParse(t, "thread a\none:\ntwo:\nend\njump out\njump one\njump two\nout:\nlast:\nthread b\none:\njump last\nlast:\nthread c\nonly:")
	var to []int
	for _, th := range p.Threads {
		for _, in := range th.Code {
			to = append(to, in.X)
		}
	}
	if !slices.Equal(to, []int{0, 4, 0, 0, 1}) {
		t.Errorf("A2: labels are at %v", to)
	}
	if p.Threads[2].Code != nil {
		t.Errorf("A2: a thread of a label alone: %v", p.Threads[2].Code)
	}
	refuse(t, "A2", "thread a\nl:\nend\nl:", api.ErrTwice, 4)
	refuse(t, "A2", "thread a\njump l\nthread b\nl:\njump l", api.ErrNone, 2)
	accept(t, "A2", head+"x:\nf:\nm:\nt:\njump x")
}

func TestLongTexts(t *testing.T) {
	base := "thread a\nend\n"
	for _, fill := range []string{"#", "\n", " "} {
		accept(t, "A2", base+strings.Repeat(fill, 3000-len(base)))
		refuse(t, "A2", base+strings.Repeat(fill, 3001-len(base)), api.ErrLong, 0)
	}
	refuse(t, "A2", "?"+strings.Repeat("\n", 3000), api.ErrLong, 0)
	refuse(t, "A2", "?"+strings.Repeat("\n", 2999), api.ErrForm, 1)
	refuse(t, "A2", strings.Repeat("\n", 2999)+"?", api.ErrForm, 3000)
	refuse(t, "G1", strings.Repeat("thread a\n", 1<<17), api.ErrLong, 0)
}

func TestTwice(t *testing.T) {
	for _, c := range []struct {
		s    string
		line int
	}{
		{"var x x", 1}, {"flag x y x", 1}, {"lock x x", 1}, {"var x\nvar x", 2}, {"var x\nflag x", 2}, {"var x\nlock x", 2},
		{"flag x\nlock x", 2}, {"flag x\nvar x", 2}, {"lock x\nflag y x", 2}, {"var x\nthread x", 2}, {"flag x\nthread x", 2},
		{"lock x\nthread x", 2}, {"thread x\nthread x", 2}, {"thread x\nend\nthread y\nthread x", 4},
	} {
		refuse(t, "A2", c.s, api.ErrTwice, c.line)
	}
}

func TestMany(t *testing.T) {
	for _, word := range []string{"var", "flag", "lock"} {
		accept(t, "A2", word+" a b c d")
		accept(t, "A2", word+" a\n"+word+" b\n"+word+" c\n"+word+" d")
		refuse(t, "A2", word+" a b c d e", api.ErrMany, 1)
		refuse(t, "A2", word+" a b\n"+word+" c d\n"+word+" e", api.ErrMany, 3)
	}
	accept(t, "A2", "var a b c d\nflag e f g h\nlock i j k l\nthread m\nthread n\nthread o\nthread p")
	refuse(t, "A2", "thread m\nthread n\nthread o\nthread p\nend\nthread q", api.ErrMany, 6)
	full := "thread a\n" + strings.Repeat("end\n", 24)
	accept(t, "A2", full)
	accept(t, "A2", full+"l:\nm:\nthread b\n"+strings.Repeat("end\n", 24))
	refuse(t, "A2", full+"end", api.ErrMany, 26)
	refuse(t, "A2", "thread z\n"+full+"l:\nend", api.ErrMany, 28)
	accept(t, "A2", "thread a\n"+strings.Repeat("end\n", 23)+"jump l\nl:")
}

func TestNone(t *testing.T) {
	for _, in := range []string{"load r0 @", "store @ 0", "get r0 @", "put @ 0", "lock @", "unlock @", "spawn @", "join @", "jump @", "jeq 0 0 @", "jlt 0 0 @"} {
		refuse(t, "A2", head+"end\n"+strings.ReplaceAll(in, "@", "no"), api.ErrNone, 6)
	}
	for in, right := range map[string]string{"load r0 @": "x", "store @ 0": "x", "get r0 @": "f", "put @ 0": "f", "lock @": "m", "unlock @": "m", "spawn @": "t", "join @": "t"} {
		for _, name := range []string{"x", "f", "m", "t"} {
			if s := head + strings.ReplaceAll(in, "@", name); name == right {
				accept(t, "A2", s)
			} else {
				refuse(t, "A2", s, api.ErrNone, 5)
			}
		}
		refuse(t, "A2", head+"l:\n"+strings.ReplaceAll(in, "@", "l"), api.ErrNone, 6)
	}
	for _, name := range []string{"x", "f", "m", "t"} {
		refuse(t, "A2", head+"jump "+name, api.ErrNone, 5)
	}
	p := mustParse(t, "thread a\nspawn c\njoin a\nthread b\nthread c\nspawn b")
	if p.Threads[0].Code[0].X != 2 || p.Threads[0].Code[1].X != 0 || p.Threads[2].Code[0].X != 1 {
		t.Errorf("A2: threads by number: %v", p)
	}
}

func TestWhichErrorComesFirst(t *testing.T) {
	four, full := "var a b c d\n", "var x\nthread a\n"+strings.Repeat("end\n", 24)
	for _, c := range []struct {
		what string
		s    string
		e    api.Errno
		line int
	}{
		{"form ahead of twice", "var x x X", api.ErrForm, 1},
		{"form ahead of many", "var a b c d e r0", api.ErrForm, 1},
		{"twice ahead of many, wherever it stands", "var a b c d e a", api.ErrTwice, 1},
		{"twice ahead of many", four + "var a", api.ErrTwice, 2},
		{"twice behind the fifth", four + "var e a", api.ErrTwice, 2},
		{"a fifth thread of a name that is there", "thread a\nthread b\nthread c\nthread d\nthread a", api.ErrTwice, 5},
		{"form ahead of many: instruction 25", full + "load r4 x", api.ErrForm, 27},
		{"many ahead of none", full + "load r0 y", api.ErrMany, 27},
		{"many ahead of a thread that is nowhere", full + "spawn y", api.ErrMany, 27},
		{"a label twice behind instruction 24", full + "l:\nl:", api.ErrTwice, 28},
		{"an earlier line's none", "thread a\nload r0 x\nnothing", api.ErrNone, 2},
		{"an earlier line's twice", "var x x\nnothing", api.ErrTwice, 1},
		{"an earlier line's many", four + "var e\nvar a\nnothing", api.ErrMany, 2},
		{"all lines ahead of threads that are nowhere", "thread a\nspawn b\nnothing", api.ErrForm, 3},
		{"all lines ahead of labels that are nowhere", "thread a\njump b\nend\nload r0 x", api.ErrNone, 4},
		{"all lines ahead of labels: twice", "thread a\njump b\nthread a", api.ErrTwice, 3},
		{"all lines ahead of labels: many", "thread a\njump b\n" + strings.Repeat("end\n", 24), api.ErrMany, 26},
		{"the first thread or label that is nowhere", "thread a\nend\njump b\nspawn b\nthread c\njoin b", api.ErrNone, 3},
		{"the first thread or label that is nowhere", "thread a\nend\nspawn b\njump b\nthread c\njoin b", api.ErrNone, 3},
		{"a label of another thread", "thread a\nl:\njump l\nthread b\nspawn a\njump l\njoin x", api.ErrNone, 6},
	} {
		t.Run(c.what, func(t *testing.T) { refuse(t, "A2", c.s, c.e, c.line) })
	}
}

func TestAnswersAreNewMemory(t *testing.T) {
	s := "var x y\nflag f g\nlock m n\nthread a\nload r0 y\nthread b\nput g 7"
	p, q, same := mustParse(t, s), mustParse(t, s), mustParse(t, s)
	for _, l := range [][]string{p.Vars, p.Flags, p.Locks} {
		for i := range l[:cap(l)] {
			l[:cap(l)][i] = "?"
		}
	}
	for i := range p.Threads {
		p.Threads[i].Name = "?"
		c := p.Threads[i].Code
		for k := range c[:cap(c)] {
			c[:cap(c)][k] = api.Instr{}
		}
	}
	if !reflect.DeepEqual(q, same) || !reflect.DeepEqual(mustParse(t, s), same) {
		t.Error("G4: a change of one answer is seen in another one")
	}
	r := mustParse(t, s)
	_ = append(r.Vars, "?")
	_ = append(r.Threads[0].Code, api.Instr{})
	if !reflect.DeepEqual(r, same) {
		t.Error("G4: lists of one answer share memory")
	}
}
