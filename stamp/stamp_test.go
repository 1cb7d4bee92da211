package stamp

import (
	"maps"
	"math"
	"slices"
	"testing"

	"weave/api"
	"weave/clock"
)

// threads has both sides of the pages' edges, below 0, too, and the ends.
var threads = []int{0, 1, 62, 63, 64, 65, 127, 128, 1000, 1001, 5000, -1, -2, -63, -64, -65, -128, math.MaxInt, math.MaxInt - 63, math.MaxInt - 64, math.MinInt, math.MinInt + 63, math.MinInt + 64}

func of(numbers map[int]int) Stamp {
	var s Stamp
	for thread, n := range numbers {
		for range n {
			s = s.Tick(thread)
		}
	}
	return s
}

func holds(t *testing.T, what string, s Stamp, want map[int]int) {
	t.Helper()
	for _, thread := range threads {
		if got := s.Of(thread); got != want[thread] {
			t.Errorf("%s: %d of thread %d, not %d", what, got, thread, want[thread])
		}
	}
}

func TestEachThreadHasItsNumber(t *testing.T) {
	want := map[int]int{}
	var s Stamp
	put := Stamp{}
	holds(t, "no numbers", s, want)
	for k, thread := range threads {
		for range k % 3 {
			s = s.Tick(thread)
			want[thread]++
		}
		put.Put(thread, k%3)
	}
	holds(t, "Tick", s, want)
	holds(t, "Put", put, want)
	for _, thread := range threads {
		holds(t, "one thread alone", of(map[int]int{thread: 2}), map[int]int{thread: 2})
	}
	put.Put(-64, 7)
	put.Put(-64, 5)
	want[-64] = 5
	holds(t, "Put, a second time", put, want)
}

func TestVectorIsOfTheFirstThreads(t *testing.T) {
	for _, c := range []struct {
		numbers map[int]int
		want    []int
	}{
		{nil, nil},
		{map[int]int{0: 3}, []int{3}},
		{map[int]int{2: 1}, []int{0, 0, 1}},
		{map[int]int{64: 1, -1: 2, math.MinInt: 1}, nil},
		{map[int]int{1: 1, 64: 1, -64: 2}, []int{0, 1}},
	} {
		s := of(c.numbers)
		got := s.Vector()
		if !slices.Equal(got, c.want) {
			t.Errorf("F1: %v: Vector is %v", c.numbers, got)
		}
		clear(got)
		if !slices.Equal(s.Vector(), c.want) {
			t.Errorf("G4: %v: the vector is the stamp's own", c.numbers)
		}
	}
	if got := of(map[int]int{63: 1}).Vector(); len(got) != Page || got[63] != 1 {
		t.Errorf("F1: %v", got)
	}
}

// TestJoin has all pairs of some stamps; none of them may change.
func TestJoin(t *testing.T) {
	numbers := []map[int]int{
		{}, {0: 1}, {0: 2}, {1: 1}, {0: 1, 1: 1}, {64: 1}, {0: 1, 64: 1}, {-1: 3, 63: 1}, {-1: 1, 63: 2, 5000: 1}, {math.MinInt: 1, math.MaxInt: 1},
	}
	for _, a := range numbers {
		for _, b := range numbers {
			s, o := of(a), of(b)
			want, leq := maps.Clone(a), true
			for thread, n := range b {
				want[thread] = max(n, want[thread])
			}
			for thread, n := range a {
				leq = leq && n <= b[thread]
			}
			both := s.Join(o)
			holds(t, "Join", both, want)
			holds(t, "what was joined", s, a)
			holds(t, "what was joined", o, b)
			if s.Leq(o) != leq {
				t.Errorf("%v.Leq(%v) is %v", a, b, !leq)
			}
			more := both.Tick(63)
			holds(t, "what had a Tick", both, want)
			if more.Of(63) != want[63]+1 || more.Leq(both) || !both.Leq(more) {
				t.Errorf("Tick: %v of %v", more, both)
			}
		}
	}
}

// TestRoom: one of the two is answered where it is enough, so that a chain of threads does not copy all that is known.
func TestRoom(t *testing.T) {
	s := of(map[int]int{0: 1, 100: 1})
	if both := s.Join(nil); &both[0][0] != &s[0][0] {
		t.Error("all was copied for nothing")
	}
	if both := (Stamp)(nil).Join(s); &both[0][0] != &s[0][0] {
		t.Error("all was copied for nothing")
	}
	if next := s.Tick(100); &next[0][0] != &s[0][0] {
		t.Error("a page was copied for nothing")
	}
	flow := Flow{}
	for _, e := range []api.Event{{Thread: 1, Kind: api.Put}, {Thread: 2, Kind: api.Get}, {Thread: 2, Kind: api.Spawn, Obj: 3}, {Thread: 3}} {
		if s := flow.Next(e, false); len(s) != 0 || len(flow) != 0 {
			t.Errorf("events that do not count take up room: %v, %v", s, flow)
		}
	}
	flow.Next(api.Event{Thread: 1, Kind: api.Spawn, Obj: 2}, true)
	flow.Next(api.Event{Thread: 2}, false)
	if _, ok := flow[door{spawns, 2}]; ok || len(flow) != 2 {
		t.Errorf("a spawn is kept beside what its thread knows: %v", flow)
	}
}

func TestHigher(t *testing.T) {
	for _, c := range [][2][]int{{nil, nil}, {{1}, nil}, {nil, {1}}, {{1, 2}, {1, 3}}, {{1, 3}, {1, 2}}, {{2, 1}, {1, 2}}, {{0, 0, 1}, {5}}} {
		if got := higher(c[0], c[1]); !clock.Same(got, clock.Max(c[0], c[1])) {
			t.Errorf("higher(%v, %v) = %v", c[0], c[1], got)
		}
	}
}
