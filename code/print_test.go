package code_test

import (
	"math"
	"reflect"
	"strings"
	"testing"

	"weave/api"
	"weave/code"
)

func TestPrint(t *testing.T) {
	for _, c := range []struct{ what, s, want string }{
		{"nothing", "", ""},
		{"a thread alone", "  thread   a # x", "thread a\n"},
		{"names without threads", "lock m\nvar x", "var x\nlock m\n"},
		{"names of a kind in one line, kinds in their order", "lock m\nflag f\nvar x\nlock n\nvar y\nflag g\nthread a",
			"var x y\nflag f g\nlock m n\nthread a\n"},
		{"numbers", "thread a\nset r0 000\nset r1 007\nset r2 070\nadd r3 r0 100", "thread a\nset r0 0\nset r1 7\nset r2 70\nadd r3 r0 100\n"},
		{"labels", "thread a\nu:\nend\nv:\nw:\njump v\njump w\nout:\nz:\njeq r0 1 out",
			"thread a\nend\nl1:\njump l1\njump l1\nl3:\njeq r0 1 l3\n"},
		{"labels at the end, and in a thread of their own", "thread a\njlt 1 2 z\nz:\nthread b\nend\nb:\nend\njump b\nthread c\nz:",
			"thread a\njlt 1 2 l1\nl1:\nthread b\nend\nl1:\nend\njump l1\nthread c\n"},
		{"a label ahead of the first instruction", "thread a\nx:\njump x", "thread a\nl0:\njump l0\n"},
		{"a number that is no jump's", "var x y\nthread a\nstore y 1\nend", "var x y\nthread a\nstore y 1\nend\n"},
		{"a label of two digits", "thread a\n" + strings.Repeat("end\n", 23) + "jump x\nx:", "thread a\n" + strings.Repeat("end\n", 23) + "jump l24\nl24:\n"},
		{"all", "var x\nflag f\nlock m\nthread a\nset r0 1\nadd r0 1 r1\nsub r1 r2 3\nmul r2 4 5\nload r3 x\nstore x r0\nget r1 f\nput f 8\nlock m\nunlock m\nspawn b\njoin b\ncheck r0 r1\nend\nthread b",
			"var x\nflag f\nlock m\nthread a\nset r0 1\nadd r0 1 r1\nsub r1 r2 3\nmul r2 4 5\nload r3 x\nstore x r0\nget r1 f\nput f 8\nlock m\nunlock m\nspawn b\njoin b\ncheck r0 r1\nend\nthread b\n"},
	} {
		p := mustParse(t, c.s)
		got := code.Print(p)
		if got != c.want {
			t.Errorf("A3: %s: %q, want %q", c.what, got, c.want)
		}
		if again := mustParse(t, got); !reflect.DeepEqual(again, p) {
			t.Errorf("A3: %s: what is printed is another program: %v, want %v", c.what, again, p)
		}
	}
}

func TestPrintLeavesItsProgram(t *testing.T) {
	s := "var x\nflag f\nlock m\nthread a\nl:\nload r1 x\njump l"
	p, same := mustParse(t, s), mustParse(t, s)
	code.Print(p)
	if !reflect.DeepEqual(p, same) {
		t.Errorf("G4: Print made %v of %v", p, same)
	}
}

// Programs that Parse would not answer get some text; which one is not said.
func TestPrintOfOtherPrograms(t *testing.T) {
	ops := []string{"", "nothing", "set", "add", "load", "store", "get", "put", "lock", "unlock", "spawn", "join", "jump", "jeq", "jlt", "check", "end"}
	for _, x := range []int{math.MinInt, -1, 0, 1, 2, 1 << 40, math.MaxInt} {
		p := api.Program{Vars: []string{""}, Threads: []api.Thread{{}, {Name: "\n"}}}
		for _, op := range ops {
			p.Threads[0].Code = append(p.Threads[0].Code, api.Instr{Op: op, R: x, A: api.Arg{N: x}, B: api.Arg{Reg: true, N: x}, X: x})
		}
		code.Print(p)
		p.Vars, p.Threads = nil, p.Threads[:1]
		code.Print(p)
	}
}
