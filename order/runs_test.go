package order_test

import (
	"math/rand"
	"slices"
	"strings"
	"testing"

	"weave/api"
	"weave/code"
	"weave/order"
	"weave/run"
)

func load(t *testing.T, text string) api.Program {
	t.Helper()
	p, errno, line := code.Parse(text)
	if errno != api.OK {
		t.Fatalf("Parse(%q) = %d, line %d", text, errno, line)
	}
	return p
}

// meet tells whether two events touch the same flag, or the same variable (one of them as a Write): such neighbours need
// not be in order, and yet cannot change places.
func meet(a, b api.Event) bool {
	if a.Obj != b.Obj {
		return false
	}
	flag := func(e api.Event) bool { return e.Kind == api.Get || e.Kind == api.Put }
	access := func(e api.Event) bool { return e.Kind == api.Read || e.Kind == api.Write }
	return flag(a) && flag(b) || access(a) && access(b) && (a.Kind == api.Write || b.Kind == api.Write)
}

// swap lets two neighbours change places, and asks for the same events and the same state.
func swap(t *testing.T, text string, p api.Program, l []api.Event, state string, k int) {
	t.Helper()
	want := slices.Clone(l)
	want[k], want[k+1] = want[k+1], want[k]
	schedule := make([]int, len(want))
	for i, e := range want {
		schedule[i] = e.Thread
	}
	if got, gotState := run.Run(p, schedule); !slices.Equal(got, want) || gotState != state {
		t.Fatalf("D3: %q: %v, %q, not %v, %q: %d is not before %d", text, got, gotState, want, state, k, k+1)
	}
}

// play goes along a random run, to its end or so far.
func play(rnd *rand.Rand, p api.Program, most int) ([]api.Event, string) {
	m := run.New(p)
	var l []api.Event
	for range most {
		ready := m.Ready()
		if ready == nil {
			break
		}
		e, _ := m.Step(ready[rnd.Intn(len(ready))])
		l = append(l, e)
	}
	return l, m.Show()
}

func randomProgram(rnd *rand.Rand) string {
	forms := []string{
		"add r0 r0 1", "load r1 V", "load r2 V", "store V r0", "store V r1", "get r3 F", "put F r0", "put F r3", "lock M \n store V r0 \n unlock M",
		"lock M \n load r2 V \n unlock M", "lock M \n unlock M", "unlock M", "spawn T", "join T", "jlt r1 r2 out", "check r1 r2", "end",
	}
	words := map[string][]string{"V": {"x", "y"}, "F": {"f", "g"}, "M": {"m", "n"}, "T": {"b", "c", "d"}}
	text := "var x y\nflag f g\nlock m n\n"
	for _, name := range []string{"a", "b", "c", "d"} {
		text += "thread " + name + "\n"
		if name == "a" {
			text += "spawn b\nspawn c\n"
		}
		for range rnd.Intn(8) {
			form := forms[rnd.Intn(len(forms))]
			if (form == "end" || form == "unlock M" || form == "check r1 r2") && rnd.Intn(4) > 0 {
				form = "set r0 5" // what ends a thread is rare, or all would be over soon
			}
			for _, w := range strings.Fields(form) {
				if names := words[w]; names != nil {
					form = strings.ReplaceAll(form, " "+w, " "+names[rnd.Intn(len(names))])
				}
			}
			text += form + "\n"
		}
		text += "out:\n"
	}
	return text
}

func TestNeighboursOfRandomRuns(t *testing.T) {
	rnd := rand.New(rand.NewSource(7))
	swapped, held := map[int]int{}, map[int]int{}
	for range 1500 {
		text := randomProgram(rnd)
		p := load(t, text)
		l, state := play(rnd, p, 60)
		check(t, l)
		for k := range len(l) - 1 {
			a, b := l[k], l[k+1]
			if a.Thread == b.Thread || meet(a, b) {
				continue
			}
			if order.Before(l, k, k+1) {
				held[a.Kind]++
				continue
			}
			swapped[a.Kind]++
			swapped[b.Kind]++
			swap(t, text, p, l, state, k)
		}
	}
	for kind := api.Local; kind <= api.End; kind++ {
		if swapped[kind] < 100 {
			t.Errorf("only %d neighbours of kind %d changed places: the runs have lost their use", swapped[kind], kind)
		}
	}
	for _, kind := range []int{api.Unlock, api.Spawn, api.End, api.Fail} {
		if held[kind] < 5 {
			t.Errorf("only %d events of kind %d are before their neighbour: the runs have lost their use", held[kind], kind)
		}
	}
}

// TestNeighbours has each kind of neighbours that change places, and of those that are in order.
func TestNeighbours(t *testing.T) {
	for _, c := range []struct{ a, b string }{ // what the threads do as neighbours, behind a's spawn
		{"set r0 1", "set r0 2"},
		{"load r0 x", "load r0 x"},
		{"store x 1", "store y 2"},
		{"store x 1", "load r0 y"},
		{"put f 1", "put g 2"},
		{"put f 1", "get r0 g"},
		{"lock m", "lock n"},
		{"store x 1", "put f 1"},
		{"lock m", "unlock m"}, // b fails, whoever holds it
		{"spawn c", "check 0 1"},
	} {
		p := load(t, "var x y\nflag f g\nlock m n\nthread a\nspawn b\n"+c.a+"\nthread b\n"+c.b+"\nthread c\n")
		l, state := run.Run(p, []int{0, 0, 1})
		if len(l) != 3 || order.Before(l, 1, 2) {
			t.Fatalf("D3: %s, %s: %v", c.a, c.b, l)
		}
		swap(t, c.a+", "+c.b, p, l, state, 1)
	}
	for _, c := range []struct {
		text     string
		schedule []int
	}{
		{"lock m\nthread a\nspawn b\nlock m\nunlock m\nthread b\nlock m", []int{0, 0, 0, 1}},
		{"thread a\nspawn b\nend\nthread b\njoin a", []int{0, 0, 1}},
		{"thread a\nspawn b\ncheck 0 1\nthread b\njoin a", []int{0, 0, 1}},
		{"thread a\nset r0 1\nspawn b\nthread b\nset r0 1", []int{0, 0, 1}},
	} {
		l, _ := run.Run(load(t, c.text), c.schedule)
		if len(l) != len(c.schedule) || !order.Before(l, len(l)-2, len(l)-1) {
			t.Errorf("D3: %q: the last two of %v are not in order", c.text, l)
		}
	}
}

// TestExamplesOfTheWhole: examples 1 to 3 of the document.
func TestExamplesOfTheWhole(t *testing.T) {
	l, _ := run.Run(load(t, "var x\nthread a\nspawn b\nstore x 1\nthread b\nload r0 x"), []int{0, 0, 1})
	races(t, "example 1", l, api.Pair{I: 1, J: 2})
	l, _ = run.Run(load(t, "var x\nthread a\nspawn b\nstore x 1\nthread b\nload r0 x"), []int{0, 1, 0})
	races(t, "example 1, the other way round", l, api.Pair{I: 1, J: 2})
	rnd := rand.New(rand.NewSource(11))
	for _, text := range []string{
		"var x\nlock m\nthread a\nspawn b\nlock m\nstore x 1\nunlock m\nthread b\nlock m\nload r0 x\nunlock m",
		"var x\nlock m\nthread a\nspawn b\nlock m\nstore x 1\nunlock m\nthread b\nlock m\nload r0 x",
		"var x\nflag f\nthread a\nspawn b\nstore x 1\nput f 1\nthread b\nget r1 f\njeq r1 0 out\nload r0 x\nout:",
	} {
		for range 50 {
			l, _ := play(rnd, load(t, text), 60)
			races(t, text, l)
		}
	}
}
