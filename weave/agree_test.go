package weave_test

import (
	"fmt"
	"math/rand"
	"strings"
	"testing"

	"weave/api"
	"weave/code"
	"weave/explore"
	"weave/fast"
	"weave/order"
	"weave/run"
)

func randomProgram(rnd *rand.Rand) string {
	forms := []string{
		"add r0 r0 1", "load r1 V", "store V r0", "store V r1", "get r3 F", "put F 1", "lock M \n store V 2 \n unlock M", "lock M", "unlock M",
		"spawn T", "join T", "jlt r1 2 out", "jump start", "check r1 r2", "end",
	}
	words := [][]string{{" V", " x", " y"}, {" F", " f", " g"}, {" M", " m", " n"}, {" T", " b", " c"}}
	text := "var x y\nflag f g\nlock m n\n"
	for k, name := range []string{"a", "b", "c"} {
		text += "thread " + name + "\n"
		if k == 0 {
			text += "spawn b\nspawn c\n"
		}
		text += "start:\n"
		for range rnd.Intn(5) {
			form := forms[rnd.Intn(len(forms))]
			for _, w := range words {
				form = strings.ReplaceAll(form, w[0], w[1+rnd.Intn(len(w)-1)])
			}
			text += form + "\n"
		}
		text += "out:\n"
	}
	return text
}

func randomSchedule(rnd *rand.Rand) (string, []int) {
	var texts []string
	var l []int
	for range rnd.Intn(30) {
		t := rnd.Intn(4)
		if rnd.Intn(10) == 0 {
			t = rnd.Intn(1000)
		}
		l = append(l, t)
		texts = append(texts, fmt.Sprintf("%0*d", 1+rnd.Intn(3), t))
	}
	if l == nil {
		return "-", nil
	}
	return strings.Join(texts, ","), l
}

// told tells a list as the chapter does, written another way.
func told(texts []string) string {
	if len(texts) == 0 {
		return "-"
	}
	return strings.Join(texts, " ")
}

// wantOfRun is what lines about a run are to be answered.
func wantOfRun(p api.Program, schedule []int) []string {
	events, show := run.Run(p, schedule)
	var eventTexts, raceTexts []string
	for _, e := range events {
		eventTexts = append(eventTexts, fmt.Sprintf("%d.%d.%d.%d", e.Thread, e.Kind, e.Obj, e.Value))
	}
	for _, r := range order.Races(events) {
		raceTexts = append(raceTexts, fmt.Sprintf("%d-%d", r.I, r.J))
	}
	return []string{
		strings.Join(strings.Split(show, "\n"), ";"), told(eventTexts), told(raceTexts),
		fmt.Sprint(fast.First(events, 0)), fmt.Sprint(fast.First(events, 1)),
	}
}

// wantOfAll is what lines about all runs are to be answered.
func wantOfAll(p api.Program) []string {
	r, errno := explore.All(p, 20000)
	if errno != api.OK {
		e := fmt.Sprintf("ERR %d", errno)
		return []string{e, e, e, e, e}
	}
	states := fmt.Sprint(r.States)
	if r.Stuck {
		states += " stuck"
	}
	if r.Failed {
		states += " failed"
	}
	var names []string
	for _, x := range r.Racy {
		names = append(names, p.Vars[x])
	}
	want := []string{strings.Join(r.Outcomes, ";"), states, told(names)}
	for x := range p.Vars {
		how := "never"
		if l, ok, _ := explore.Witness(p, x, 20000); ok {
			how = strings.ReplaceAll(strings.Trim(fmt.Sprint(l), "[]"), " ", ",")
		}
		want = append(want, how)
	}
	return want
}

func TestAgainstPackages(t *testing.T) {
	rnd := rand.New(rand.NewSource(31))
	raced, never := 0, 0
	for range 150 {
		text := randomProgram(rnd)
		p, errno, line := code.Parse(text)
		if errno != api.OK {
			t.Fatalf("Parse(%q) = %d, %d", text, errno, line)
		}
		lines, want := []string{"OUTCOMES", "STATES", "RACY", "HOW x", "HOW y"}, wantOfAll(p)
		for range 10 {
			s, schedule := randomSchedule(rnd)
			lines = append(lines, "SHOW "+s, "EVENTS "+s, "RACES "+s, "FIRST x "+s, "FIRST y "+s)
			want = append(want, wantOfRun(p, schedule)...)
		}
		for i, got := range do(t, text, lines...) {
			if got != want[i] {
				t.Fatalf("K1: %q: %q is answered %q, want %q", text, lines[i], got, want[i])
			}
		}
		if want[2] == "-" {
			never++
		} else {
			raced++
		}
	}
	if raced < 20 || never < 20 {
		t.Errorf("%d programs that race, %d that do not: they have lost their use", raced, never)
	}
}
