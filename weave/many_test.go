package weave_test

import (
	"fmt"
	"math"
	"math/rand"
	"runtime"
	"slices"
	"strings"
	"testing"
	"time"

	"weave/api"
	"weave/weave"
)

func many(t *testing.T, programs []string, line string, workers int) []string {
	t.Helper()
	l, errno := weave.Many(programs, line, workers)
	if errno != api.OK || len(l) != len(programs) {
		t.Fatalf("K2: Many(%d programs, %q, %d) = %q, %d", len(programs), line, workers, l, errno)
	}
	return l
}

func TestWorkers(t *testing.T) {
	for _, workers := range []int{0, -1, 17, 18, math.MaxInt, math.MinInt} {
		for _, programs := range [][]string{nil, {""}, {example, "foo"}} {
			if l, errno := weave.Many(programs, "STATES", workers); l != nil || errno != api.ErrRange {
				t.Errorf("K2: Many(%q, STATES, %d) = %q, %d", programs, workers, l, errno)
			}
		}
	}
	for workers := 1; workers <= 16; workers++ {
		for _, programs := range [][]string{nil, {}} {
			if l, errno := weave.Many(programs, "STATES", workers); l != nil || errno != api.OK {
				t.Errorf("K2: Many(%q, STATES, %d) = %q, %d", programs, workers, l, errno)
			}
		}
		if l := many(t, []string{example}, "STATES", workers); l[0] != "14" {
			t.Errorf("K2: by %d workers: %q", workers, l)
		}
	}
}

func TestMany(t *testing.T) {
	programs := []string{example, "foo", racing, "", "var x\n\nvar x", strings.Repeat(" ", 3001), endless, huge, "thread a\nspawn a", forgets}
	for _, c := range []struct {
		line string
		want []string
	}{
		{"OUTCOMES", []string{"x=1", "ERR 2 1", "x=1;x=2", "", "ERR 3 3", "ERR 1 0", "", "ERR 4", "stuck", "x=0 stuck;x=1"}},
		{"RACY", []string{"x", "ERR 2 1", "x", "-", "ERR 3 3", "ERR 1 0", "-", "ERR 4", "-", "-"}},
		{"FIRST x 0,0,1", []string{"2", "ERR 2 1", "-1", "ERR 5", "ERR 3 3", "ERR 1 0", "ERR 5", "-1", "ERR 5", "-1"}},
		{"EVENTS 0", []string{"0.7.1.0", "ERR 2 1", "0.7.1.0", "-", "ERR 3 3", "ERR 1 0", "0.0.0.0", "0.0.0.0", "-", "0.7.1.0"}},
		{"FOO", []string{"ERR 2", "ERR 2 1", "ERR 2", "ERR 2", "ERR 3 3", "ERR 1 0", "ERR 2", "ERR 2", "ERR 2", "ERR 2"}},
		{"", []string{"ERR 2", "ERR 2 1", "ERR 2", "ERR 2", "ERR 3 3", "ERR 1 0", "ERR 2", "ERR 2", "ERR 2", "ERR 2"}},
		{"SHOW -\nSHOW -", []string{"ERR 2", "ERR 2 1", "ERR 2", "ERR 2", "ERR 3 3", "ERR 1 0", "ERR 2", "ERR 2", "ERR 2", "ERR 2"}},
	} {
		for _, workers := range []int{1, 2, 9, 10, 11, 16} {
			if l := many(t, programs, c.line, workers); !slices.Equal(l, c.want) {
				t.Errorf("K2: %q by %d workers: %q, want %q", c.line, workers, l, c.want)
			}
		}
	}
}

// TestManyLikeDo: the answers are those of Do, in the order of the programs, however many workers there are.
func TestManyLikeDo(t *testing.T) {
	rnd := rand.New(rand.NewSource(37))
	var programs []string
	for range 60 {
		text := randomProgram(rnd)
		if rnd.Intn(5) == 0 {
			text = strings.Replace(text, []string{"x", "spawn b", "start:", "lock"}[rnd.Intn(4)], "q", 1)
		}
		programs = append(programs, text)
	}
	unread := 0
	for _, line := range []string{"STATES", "HOW x", "SHOW 0,0,0,1,2,1,2", "RACY x"} {
		want := make([]string, len(programs))
		for i, text := range programs {
			l, errno, at := weave.Do(text, []string{line})
			if errno != api.OK {
				unread++
				l = []string{fmt.Sprintf("ERR %d %d", errno, at)}
			}
			want[i] = l[0]
		}
		for _, workers := range []int{1, 2, 5, 16} {
			if got := many(t, programs, line, workers); !slices.Equal(got, want) {
				t.Errorf("K2: %q by %d workers: %q, want %q", line, workers, got, want)
			}
		}
	}
	if unread < 8 {
		t.Errorf("%d programs cannot be read: they have lost their use", unread)
	}
}

// TestNothingGoesOn: goroutines may need a moment to be gone, but not more.
func TestNothingGoesOn(t *testing.T) {
	before := runtime.NumGoroutine()
	for workers := 1; workers <= 16; workers++ {
		many(t, nil, "STATES", workers)
		many(t, []string{racing, "foo"}, "STATES", workers)
		many(t, slices.Repeat([]string{racing}, 40), "STATES", workers)
		weave.Many([]string{racing}, "STATES", 16+workers)
	}
	do(t, racing, "STATES", "HOW x")
	for range 100 {
		if runtime.NumGoroutine() <= before {
			return
		}
		time.Sleep(10 * time.Millisecond)
	}
	t.Errorf("K2: %d goroutines, and there were %d", runtime.NumGoroutine(), before)
}

// TestManyNewMemory: programs are neither changed nor kept, and answers share nothing (G4).
func TestManyNewMemory(t *testing.T) {
	programs := []string{example, "foo", racing}
	first := many(t, programs, "OUTCOMES", 2)
	if !slices.Equal(programs, []string{example, "foo", racing}) {
		t.Fatalf("G4: the programs are %q now", programs)
	}
	want := []string{"x=1", "ERR 2 1", "x=1;x=2"}
	clear(programs)
	second := many(t, []string{example, "foo", racing}, "OUTCOMES", 2)
	if !slices.Equal(first, want) || !slices.Equal(second, want) {
		t.Fatalf("G4: %q, %q, want %q", first, second, want)
	}
	clear(first[:cap(first)])
	if third := many(t, []string{example, "foo", racing}, "OUTCOMES", 2); !slices.Equal(second, want) || !slices.Equal(third, want) {
		t.Errorf("G4: %q, %q, want %q", second, third, want)
	}
}

// TestAtOnce: calls that go on at the same time share nothing.
func TestAtOnce(t *testing.T) {
	answers := make(chan string)
	for k := range 8 {
		go func() {
			l, _ := weave.Many([]string{racing, example, locked, "foo"}, "OUTCOMES", 1+k)
			answers <- strings.Join(l, "|")
		}()
	}
	for range 8 {
		if got := <-answers; got != "x=1;x=2|x=1|x=1|ERR 2 1" {
			t.Errorf("K2: %q", got)
		}
	}
}
