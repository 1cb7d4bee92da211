package explore_test

import (
	"fmt"
	"math/rand"
	"reflect"
	"slices"
	"strings"
	"testing"

	"weave/api"
	"weave/djit"
	"weave/explore"
	"weave/fast"
	"weave/order"
	"weave/run"
)

// randomProgram has some threads of a few instructions each; with loops it may have runs without an end.
func randomProgram(rnd *rand.Rand, threads, length int, loops bool) string {
	forms := []string{
		"add r0 r0 1", "set r1 2", "load r1 V", "load r2 V", "store V r0", "store V r1", "store V 3", "store V 4", "get r3 F", "put F r1", "put F 1",
		"lock M \n store V r0 \n unlock M", "lock M \n load r2 V \n unlock M", "lock M", "unlock M", "spawn T", "join T", "jlt r1 r2 out", "jeq r3 0 out",
		"check r1 r2", "end",
	}
	if loops {
		forms = append(forms, "jump start", "jeq r1 r2 start", "jlt r3 1 start")
	}
	names := []string{"a", "b", "c", "d"}[:threads]
	words := [][]string{{" V", " x", " y"}, {" F", " f", " g"}, {" M", " m", " n"}, {" T", " a", " b", " " + names[threads-1]}}
	text := "var x y\nflag f g\nlock m n\n"
	for k, name := range names {
		text += "thread " + name + "\n"
		if k == 0 && rnd.Intn(8) > 0 {
			text += "spawn " + strings.Join(names[1:min(threads, 3)], "\nspawn ") + "\n"
		}
		text += "start:\n"
		for range rnd.Intn(length + 1) {
			form := forms[rnd.Intn(len(forms))]
			if strings.Contains("end,unlock M,lock M,join T", form) && rnd.Intn(3) > 0 {
				form = "store V r0" // what ends or holds up a thread is rare, or all would be over soon
			}
			for _, w := range words {
				form = strings.ReplaceAll(form, w[0], w[1+rnd.Intn(len(w)-1)])
			}
			text += form + "\n"
		}
		text += "out:\n"
	}
	return text
}

// sources is random programs of each kind, the same ones whenever it is asked.
func sources(n int) []string {
	rnd := rand.New(rand.NewSource(17))
	var texts []string
	for k := range n {
		texts = append(texts, randomProgram(rnd, 2+k%3, 7-k%3, k%2 == 0))
	}
	return texts
}

// TestAgainstReading holds reports of random programs against the second reading.
func TestAgainstReading(t *testing.T) {
	stuck, failed, racy, calm, endless, several := 0, 0, 0, 0, 0, 0
	for _, text := range sources(300) {
		p := load(t, text)
		if _, ok := read(p, 800); !ok {
			continue
		}
		r := checkReading(t, text)
		checkBound(t, text, r)
		count := func(n *int, when bool) {
			if when {
				*n++
			}
		}
		count(&stuck, r.Stuck)
		count(&failed, r.Failed)
		count(&racy, r.Racy != nil)
		count(&calm, r.Racy == nil)
		count(&endless, r.Outcomes == nil)
		count(&several, len(r.Outcomes) > 1)
	}
	if got := []int{stuck, failed, racy, calm, endless, several}; slices.Min(got) < 5 {
		t.Errorf("%v reports of each kind: the programs have lost their use", got)
	}
}

// checkBound asks with just so many states, and with one less.
func checkBound(t *testing.T, text string, r api.Report) {
	t.Helper()
	p := load(t, text)
	if got, errno := explore.All(p, r.States); errno != api.OK || !reflect.DeepEqual(got, r) {
		t.Fatalf("J1: %q: All(%d) = %+v, %d, want %+v", text, r.States, got, errno, r)
	}
	if got, errno := explore.All(p, r.States-1); r.States > 1 && (errno != api.ErrMany || !reflect.DeepEqual(got, api.Report{})) {
		t.Fatalf("J1: %q: All(%d) = %+v, %d, and there are %d states", text, r.States-1, got, errno, r.States)
	}
}

// play goes along a random run, to its end or so far.
func play(rnd *rand.Rand, p api.Program, most int) ([]api.Event, *run.Machine) {
	m := run.New(p)
	var l []api.Event
	for range most {
		ready := m.Ready()
		if ready == nil {
			break
		}
		e, _ := m.Step(ready[rnd.Intn(len(ready))])
		l = append(l, e)
	}
	return l, m
}

// checkRun holds a run against a report: J3, and its outcome.
func checkRun(t *testing.T, text string, p api.Program, r api.Report, l []api.Event, m *run.Machine) (raced bool) {
	t.Helper()
	if races := order.Races(l); races != nil {
		raced = true
		if x := l[races[0].J].Obj; !slices.Contains(r.Racy, x) {
			t.Fatalf("J3: %q: the first race of %v is of %d, and Racy is %v", text, l, x, r.Racy)
		}
	}
	if raced != slices.Contains(djit.Racy(l), true) {
		t.Fatalf("%q: order and djit do not agree about %v", text, l)
	}
	for x := range p.Vars {
		if raced = raced || fast.First(l, x) >= 0; raced && r.Racy == nil {
			t.Fatalf("J3: %q: %v has a race, and none is Racy", text, l)
		}
	}
	if m.Ready() == nil && !slices.Contains(r.Outcomes, readOutcome(p, m.Show())) {
		t.Fatalf("J1: %q: %v leads to %q, which is none of %q", text, l, m.Show(), r.Outcomes)
	}
	if slices.ContainsFunc(l, func(e api.Event) bool { return e.Kind == api.Fail }) && !r.Failed {
		t.Fatalf("J1: %q: %v has a failure, and Failed is false", text, l)
	}
	return raced
}

func TestRandomRuns(t *testing.T) {
	rnd := rand.New(rand.NewSource(19))
	raced, calm := 0, 0
	for _, text := range sources(500) {
		p := load(t, text)
		r, errno := explore.All(p, most)
		if errno != api.OK {
			continue
		}
		for range 20 {
			l, m := play(rnd, p, 60)
			if checkRun(t, text, p, r, l, m) {
				raced++
			} else {
				calm++
			}
		}
	}
	if raced < 1000 || calm < 1000 {
		t.Errorf("%d runs with a race, %d without: the programs have lost their use", raced, calm)
	}
}

// raceBehindRace has a race of y behind one of x alone: two threads never go to y at once.
const raceBehindRace = "var x y\nthread a\nspawn b\nstore y 1\nstore x 1\nthread b\nload r0 x\njeq r0 0 out\nload r1 y\nout:"

// everyRun goes along all runs, each to its end.
func everyRun(m *run.Machine, l []api.Event, at func([]api.Event, *run.Machine)) {
	ready := m.Ready()
	if ready == nil {
		at(l, m)
	}
	for _, t := range ready {
		c := m.Copy()
		e, _ := c.Step(t)
		everyRun(c, append(slices.Clip(l), e), at)
	}
}

// TestEveryRun: an outcome is told just if a run comes to it; the first race of each run is of one that is Racy, and each
// that is Racy has a run with a race of it.
func TestEveryRun(t *testing.T) {
	rnd := rand.New(rand.NewSource(23))
	racy, behind := 0, 0
	texts := []string{raceBehindRace}
	for k := range 200 {
		texts = append(texts, randomProgram(rnd, 2+k%2, 4-2*(k%2), false))
	}
	for _, text := range texts {
		p := load(t, text)
		r, errno := explore.All(p, most)
		if errno != api.OK {
			t.Fatalf("%q: %d", text, errno)
		}
		outcomes, raced := map[string]bool{}, map[int]bool{}
		everyRun(run.New(p), nil, func(l []api.Event, m *run.Machine) {
			checkRun(t, text, p, r, l, m)
			outcomes[readOutcome(p, m.Show())] = true
			for _, race := range order.Races(l) {
				raced[l[race.J].Obj] = true
			}
		})
		if len(outcomes) != len(r.Outcomes) { // each of a run is one of these: see checkRun
			t.Fatalf("J1: %q: %v, and the runs come to %v", text, r.Outcomes, outcomes)
		}
		for _, x := range r.Racy {
			racy++
			if !raced[x] {
				t.Fatalf("J3: %q: %d is Racy, and no run has a race of it", text, x)
			}
		}
		if len(raced) > len(r.Racy) {
			behind++ // as that run's first race is of another
		}
	}
	if racy < 30 || behind < 1 {
		t.Errorf("%d racy variables, %d programs with a race behind the first one alone: the programs have lost their use", racy, behind)
	}
}

// TestSameAgain: what is answered does not hang on the order in which maps are gone through (G3).
func TestSameAgain(t *testing.T) {
	for _, text := range sources(12) {
		var first string
		for k := range 5 {
			p := load(t, text)
			r, errno := explore.All(p, 2000)
			l, ok, _ := explore.Witness(p, 0, 2000)
			answer := fmt.Sprint(r, errno, l, ok)
			for _, o := range r.Outcomes {
				l, ok, _ := explore.Reach(p, o, 2000)
				answer += fmt.Sprint(l, ok)
			}
			if k == 0 {
				first = answer
			}
			if answer != first {
				t.Fatalf("G3: %q: %s, then %s", text, first, answer)
			}
		}
	}
}
