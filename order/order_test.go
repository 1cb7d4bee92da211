package order_test

import (
	"math"
	"slices"
	"testing"

	"weave/api"
	"weave/order"
)

func ev(thread, kind, obj int) api.Event { return api.Event{Thread: thread, Kind: kind, Obj: obj} }

// TestLeads has two events each, of which the first one leads to the second one, or does not.
func TestLeads(t *testing.T) {
	for _, c := range []struct {
		what string
		i, j api.Event
		want bool
	}{
		{"one thread", ev(3, api.Local, 0), ev(3, api.Local, 0), true},
		{"one thread, whatever it does", ev(3, api.Read, 7), ev(3, api.Spawn, 1), true},
		{"one thread of a number below 0", ev(-3, api.End, 7), ev(-3, api.Fail, 1), true},
		{"two threads", ev(3, api.Local, 0), ev(4, api.Local, 0), false},
		{"two threads, the same number but for its sign", ev(3, api.Local, 0), ev(-3, api.Local, 0), false},

		{"unlock, lock", ev(0, api.Unlock, 5), ev(1, api.Lock, 5), true},
		{"unlock, lock of another one", ev(0, api.Unlock, 5), ev(1, api.Lock, 6), false},
		{"lock, unlock", ev(0, api.Lock, 5), ev(1, api.Unlock, 5), false},
		{"lock, lock", ev(0, api.Lock, 5), ev(1, api.Lock, 5), false},
		{"unlock, unlock", ev(0, api.Unlock, 5), ev(1, api.Unlock, 5), false},

		{"put, get", ev(0, api.Put, 5), ev(1, api.Get, 5), true},
		{"put, get of another one", ev(0, api.Put, 5), ev(1, api.Get, 4), false},
		{"get, put", ev(0, api.Get, 5), ev(1, api.Put, 5), false},
		{"get, get", ev(0, api.Get, 5), ev(1, api.Get, 5), false},
		{"put, put", ev(0, api.Put, 5), ev(1, api.Put, 5), false},

		{"unlock, get of the same number", ev(0, api.Unlock, 5), ev(1, api.Get, 5), false},
		{"put, lock of the same number", ev(0, api.Put, 5), ev(1, api.Lock, 5), false},
		{"write, read", ev(0, api.Write, 5), ev(1, api.Read, 5), false},
		{"read, write", ev(0, api.Read, 5), ev(1, api.Write, 5), false},
		{"write, get of the same number", ev(0, api.Write, 5), ev(1, api.Get, 5), false},
		{"put, read of the same number", ev(0, api.Put, 5), ev(1, api.Read, 5), false},
		{"unlock, join of the same number", ev(0, api.Unlock, 5), ev(1, api.Join, 5), false},
		{"spawn, lock of the same number", ev(0, api.Spawn, 5), ev(1, api.Lock, 5), false},

		{"spawn, its thread", ev(0, api.Spawn, 5), ev(5, api.Local, 0), true},
		{"spawn, its thread, whatever it does", ev(0, api.Spawn, 5), ev(5, api.Write, 5), true},
		{"spawn, another thread", ev(0, api.Spawn, 5), ev(4, api.Local, 5), false},
		{"a thread, its spawn", ev(5, api.Local, 0), ev(0, api.Spawn, 5), false},
		{"spawn, spawn of the same one", ev(0, api.Spawn, 5), ev(1, api.Spawn, 5), false},
		{"spawn, join of what has done nothing", ev(0, api.Spawn, 5), ev(1, api.Join, 5), false},
		{"a thread that spawns the other one, which has a number of its own", ev(0, api.Spawn, 1), ev(1, api.Spawn, 0), true},

		{"a thread, its join", ev(5, api.End, 0), ev(0, api.Join, 5), true},
		{"a thread, whatever it does, its join", ev(5, api.Write, 1), ev(0, api.Join, 5), true},
		{"a thread, the join of another one", ev(5, api.End, 0), ev(0, api.Join, 4), false},
		{"join, its thread", ev(0, api.Join, 5), ev(5, api.Local, 0), false},
		{"join, join of the same one", ev(0, api.Join, 5), ev(1, api.Join, 5), false},
		{"join, join of the one that joins", ev(0, api.Join, 5), ev(1, api.Join, 0), true},

		{"fail and end of other threads", ev(0, api.Fail, 0), ev(1, api.End, 0), false},
		{"numbers at the ends", ev(math.MinInt, api.Unlock, math.MaxInt), ev(math.MaxInt, api.Lock, math.MaxInt), true},
		{"numbers at the ends, that differ", ev(math.MinInt, api.Unlock, math.MaxInt), ev(math.MaxInt, api.Lock, math.MinInt), false},
	} {
		if got := order.Before([]api.Event{c.i, c.j}, 0, 1); got != c.want {
			t.Errorf("D1: %s: Before is %v", c.what, got)
		}
		if order.Before([]api.Event{c.i, c.j}, 1, 0) {
			t.Errorf("D1: %s: the later one is before the earlier one", c.what)
		}
	}
}

// TestOtherKinds: such events neither lead to other threads' nor are led to, but for what any event of the thread does.
func TestOtherKinds(t *testing.T) {
	for _, kind := range []int{-1, 11, 12, 64 + api.Unlock, -api.Write, math.MaxInt, math.MinInt, api.Local, api.Fail, api.End} {
		for other := api.Local; other <= api.End; other++ {
			if l := []api.Event{ev(0, kind, 5), ev(1, other, 5)}; order.Before(l, 0, 1) || order.Races(l) != nil {
				t.Errorf("D1: kind %d is before %d, or races with it", kind, other)
			}
			if l := []api.Event{ev(0, other, 5), ev(1, kind, 5)}; order.Before(l, 0, 1) || order.Races(l) != nil {
				t.Errorf("D1: kind %d is behind %d, or races with it", kind, other)
			}
		}
		if l := []api.Event{ev(0, kind, 5), ev(0, kind, 6)}; !order.Before(l, 0, 1) {
			t.Errorf("D1: kind %d is not before what its thread does next", kind)
		}
		if l := []api.Event{ev(0, api.Spawn, 1), ev(1, kind, 5), ev(2, api.Join, 1)}; !order.Before(l, 0, 1) || !order.Before(l, 1, 2) || !order.Before(l, 0, 2) {
			t.Errorf("D1: kind %d has no spawn ahead of it, or no join behind it", kind)
		}
	}
}

// TestChains goes over several threads, and by all the ways.
func TestChains(t *testing.T) {
	l := []api.Event{
		ev(0, api.Write, 0), ev(0, api.Put, 0), ev(1, api.Get, 0), ev(1, api.Unlock, 0), ev(2, api.Lock, 0), ev(2, api.Spawn, 3),
		ev(3, api.End, 0), ev(4, api.Join, 3), ev(4, api.Write, 0),
	}
	for i := range l {
		for j := range l {
			if got := order.Before(l, i, j); got != (i < j) {
				t.Errorf("D1: Before(%d, %d) = %v", i, j, got)
			}
		}
	}
	for gap := 1; gap < len(l)-1; gap++ { // each event between is needed
		broken := slices.Clone(l)
		broken[gap].Thread = 100 + gap
		if order.Before(broken, 0, len(l)-1) {
			t.Errorf("D1: the chain holds without event %d", gap)
		}
	}
}

func TestWhatIsNotBefore(t *testing.T) {
	for _, c := range []struct {
		what string
		l    []api.Event
		i, j int
		want bool
	}{
		{"what is behind the unlock", []api.Event{ev(0, api.Unlock, 5), ev(0, api.Write, 0), ev(1, api.Lock, 5), ev(1, api.Write, 0)}, 1, 3, false},
		{"what is ahead of the lock", []api.Event{ev(0, api.Unlock, 5), ev(1, api.Write, 0), ev(1, api.Lock, 5)}, 0, 1, false},
		{"a later unlock", []api.Event{ev(0, api.Write, 0), ev(1, api.Lock, 5), ev(0, api.Unlock, 5), ev(1, api.Write, 0)}, 0, 3, false},
		{"an earlier unlock, too", []api.Event{ev(0, api.Unlock, 5), ev(2, api.Lock, 5), ev(2, api.Unlock, 5), ev(1, api.Lock, 5)}, 0, 3, true},
		{"an earlier unlock, with no lock between", []api.Event{ev(0, api.Unlock, 5), ev(2, api.Unlock, 5), ev(1, api.Lock, 5)}, 0, 2, true},
		{"the later one of the unlocks", []api.Event{ev(0, api.Unlock, 5), ev(2, api.Unlock, 5), ev(1, api.Lock, 5)}, 1, 2, true},
		{"a second lock", []api.Event{ev(0, api.Unlock, 5), ev(2, api.Lock, 5), ev(1, api.Lock, 5)}, 0, 2, true},
		{"a lock has no part in the next one", []api.Event{ev(2, api.Lock, 5), ev(0, api.Unlock, 5), ev(1, api.Lock, 5)}, 0, 2, false},
		{"an earlier put, too", []api.Event{ev(0, api.Put, 5), ev(2, api.Put, 5), ev(1, api.Get, 5)}, 0, 2, true},
		{"what is behind the put", []api.Event{ev(0, api.Put, 5), ev(0, api.Write, 0), ev(1, api.Get, 5)}, 1, 2, false},
		{"a later put", []api.Event{ev(1, api.Get, 5), ev(0, api.Put, 5), ev(1, api.Read, 0)}, 1, 2, false},
		{"two gets", []api.Event{ev(0, api.Put, 5), ev(2, api.Get, 5), ev(1, api.Get, 5)}, 1, 2, false},
		{"what is behind the spawn", []api.Event{ev(0, api.Spawn, 1), ev(0, api.Write, 0), ev(1, api.Write, 0)}, 1, 2, false},
		{"a spawn of one that runs already", []api.Event{ev(1, api.Local, 0), ev(0, api.Spawn, 1), ev(1, api.Local, 0)}, 1, 2, true},
		{"two spawns of one", []api.Event{ev(0, api.Spawn, 1), ev(2, api.Spawn, 1), ev(1, api.Local, 0)}, 0, 2, true},
		{"a spawn of a thread that does nothing", []api.Event{ev(2, api.Write, 0), ev(2, api.Spawn, 1), ev(0, api.Join, 1), ev(0, api.Write, 0)}, 0, 3, false},
		{"a join ahead of what is joined", []api.Event{ev(0, api.Join, 1), ev(1, api.Write, 0), ev(0, api.Write, 0)}, 1, 2, false},
		{"a join behind some of what is joined", []api.Event{ev(1, api.Write, 0), ev(0, api.Join, 1), ev(1, api.Write, 0), ev(0, api.Write, 0)}, 0, 3, true},
		{"a join ahead of the rest", []api.Event{ev(1, api.Write, 0), ev(0, api.Join, 1), ev(1, api.Write, 0), ev(0, api.Write, 0)}, 2, 3, false},
		{"what is behind the join", []api.Event{ev(1, api.End, 0), ev(0, api.Write, 0), ev(0, api.Join, 1)}, 0, 1, false},
		{"a join of itself", []api.Event{ev(0, api.Write, 0), ev(0, api.Join, 0), ev(1, api.Write, 0)}, 0, 2, false},
		{"a spawn of itself", []api.Event{ev(0, api.Spawn, 0), ev(0, api.Write, 0), ev(1, api.Write, 0)}, 1, 2, false},
	} {
		if got := order.Before(c.l, c.i, c.j); got != c.want {
			t.Errorf("D1: %s: Before(%v, %d, %d) = %v", c.what, c.l, c.i, c.j, got)
		}
	}
}

func TestEventsThatThereAreNoneOf(t *testing.T) {
	l := []api.Event{ev(0, api.Write, 0), ev(0, api.Write, 0), ev(0, api.Write, 0)}
	if !order.Before(l, 0, 1) || !order.Before(l, 0, 2) || !order.Before(l, 1, 2) {
		t.Error("D1: the events of one thread are not in order")
	}
	for _, c := range [][2]int{
		{0, 0}, {1, 1}, {2, 2}, {1, 0}, {2, 0}, {2, 1}, {-1, 0}, {-1, 2}, {-1, 3}, {0, 3}, {2, 3}, {3, 3}, {3, 4}, {3, 2}, {0, -1}, {-2, -1}, {0, 64}, {64, 65},
		{math.MinInt, 1}, {1, math.MinInt}, {0, math.MaxInt}, {math.MaxInt, 1}, {math.MinInt, math.MaxInt}, {math.MaxInt, math.MinInt}, {math.MaxInt, math.MaxInt},
	} {
		if order.Before(l, c[0], c[1]) {
			t.Errorf("D1: Before(%d, %d)", c[0], c[1])
		}
		if order.Before(nil, c[0], c[1]) || order.Before([]api.Event{}, c[0], c[1]) {
			t.Errorf("D1: Before(%d, %d), of no events", c[0], c[1])
		}
	}
}

func races(t *testing.T, what string, l []api.Event, want ...api.Pair) {
	t.Helper()
	if got := order.Races(l); !slices.Equal(got, want) || (got == nil) != (want == nil) {
		t.Errorf("D2: %s: Races(%v) = %v, want %v", what, l, got, want)
	}
}

func TestRaces(t *testing.T) {
	races(t, "no events", nil)
	races(t, "no events", []api.Event{})
	races(t, "one event", []api.Event{ev(0, api.Write, 0)})
	races(t, "write, write", []api.Event{ev(0, api.Write, 7), ev(1, api.Write, 7)}, api.Pair{I: 0, J: 1})
	races(t, "write, read", []api.Event{ev(0, api.Write, 7), ev(1, api.Read, 7)}, api.Pair{I: 0, J: 1})
	races(t, "read, write", []api.Event{ev(0, api.Read, 7), ev(1, api.Write, 7)}, api.Pair{I: 0, J: 1})
	races(t, "read, read", []api.Event{ev(0, api.Read, 7), ev(1, api.Read, 7)})
	races(t, "one thread", []api.Event{ev(1, api.Write, 7), ev(1, api.Write, 7), ev(1, api.Read, 7), ev(1, api.Write, 7)})
	races(t, "another variable", []api.Event{ev(0, api.Write, 7), ev(1, api.Write, -7), ev(2, api.Read, 8), ev(3, api.Write, 6)})
	races(t, "a write and a put of the same number", []api.Event{ev(0, api.Write, 7), ev(1, api.Put, 7), ev(2, api.Get, 7), ev(3, api.Lock, 7)})
	races(t, "put and put", []api.Event{ev(0, api.Put, 7), ev(1, api.Put, 7), ev(2, api.Get, 7)})
	races(t, "numbers at the ends", []api.Event{ev(math.MinInt, api.Write, math.MinInt), ev(math.MaxInt, api.Read, math.MinInt), ev(0, api.Write, math.MaxInt)},
		api.Pair{I: 0, J: 1})
	races(t, "the same value", []api.Event{{Thread: 0, Kind: api.Write, Value: 3}, {Thread: 1, Kind: api.Write, Value: 3}}, api.Pair{I: 0, J: 1})
}

func TestRacesRiseByTheSecondEvent(t *testing.T) {
	races(t, "all with all",
		[]api.Event{ev(0, api.Write, 0), ev(1, api.Write, 0), ev(2, api.Write, 0), ev(3, api.Read, 0)},
		api.Pair{I: 0, J: 1}, api.Pair{I: 0, J: 2}, api.Pair{I: 1, J: 2}, api.Pair{I: 0, J: 3}, api.Pair{I: 1, J: 3}, api.Pair{I: 2, J: 3})
	races(t, "reads and writes between each other",
		[]api.Event{ev(0, api.Read, 0), ev(1, api.Write, 0), ev(2, api.Read, 0), ev(3, api.Write, 0), ev(0, api.Write, 0)},
		api.Pair{I: 0, J: 1}, api.Pair{I: 1, J: 2}, api.Pair{I: 0, J: 3}, api.Pair{I: 1, J: 3}, api.Pair{I: 2, J: 3},
		api.Pair{I: 1, J: 4}, api.Pair{I: 2, J: 4}, api.Pair{I: 3, J: 4})
	races(t, "two variables that take turns",
		[]api.Event{ev(0, api.Write, 1), ev(0, api.Write, 0), ev(1, api.Write, 0), ev(1, api.Write, 1), ev(2, api.Read, 0)},
		api.Pair{I: 1, J: 2}, api.Pair{I: 0, J: 3}, api.Pair{I: 1, J: 4}, api.Pair{I: 2, J: 4})
}

func TestRacesOfWhatIsInOrder(t *testing.T) {
	w0, w1, r1 := ev(0, api.Write, 0), ev(1, api.Write, 0), ev(1, api.Read, 0)
	for what, between := range map[string][]api.Event{
		"a lock":           {ev(0, api.Unlock, 5), ev(1, api.Lock, 5)},
		"a flag":           {ev(0, api.Put, 5), ev(1, api.Get, 5)},
		"a spawn":          {ev(0, api.Spawn, 1)},
		"a join":           {ev(1, api.Join, 0)},
		"a thread between": {ev(0, api.Put, 5), ev(2, api.Get, 5), ev(2, api.Put, 6), ev(1, api.Get, 6)},
	} {
		for _, last := range []api.Event{w1, r1} {
			races(t, what, slices.Concat([]api.Event{w0}, between, []api.Event{last}))
			all := slices.Concat([]api.Event{w0}, between, []api.Event{w0, last})
			races(t, what+", and a write behind it", all, api.Pair{I: len(all) - 2, J: len(all) - 1})
		}
		if len(between) > 1 { // either end of it away
			l := slices.Concat([]api.Event{w0}, between[1:], []api.Event{w1})
			races(t, what+" without its beginning", l, api.Pair{I: 0, J: len(l) - 1})
			l = slices.Concat([]api.Event{w0}, between[:len(between)-1], []api.Event{w1})
			races(t, what+" without its end", l, api.Pair{I: 0, J: len(l) - 1})
		}
	}
}

// TestLongLists has events at both sides of the places where sets of bits begin another word.
func TestLongLists(t *testing.T) {
	for _, n := range []int{62, 63, 64, 65, 127, 128, 129, 200, 1000} {
		l := make([]api.Event, n, n+3)
		l[0], l[n-1] = ev(0, api.Write, 9), ev(0, api.Put, 9)
		l = append(l, ev(1, api.Write, 9), ev(1, api.Get, 9), ev(1, api.Write, 9))
		races(t, "a long list", l, api.Pair{I: 0, J: n})
		for i := range n {
			if order.Before(l, i, n) || !order.Before(l, i, n+1) || !order.Before(l, i, n+2) || order.Before(l, i, n+3) {
				t.Fatalf("D1: %d events: event %d", n, i)
			}
		}
		if !order.Before(l, n, n+1) || !order.Before(l, n-1, n+2) {
			t.Errorf("D1: %d events: the last ones", n)
		}
	}
	all := make([]api.Event, 150) // each a thread of its own, and each races with each
	for i := range all {
		all[i] = ev(i, api.Write, 0)
	}
	var want []api.Pair
	for j := range all {
		for i := range j {
			want = append(want, api.Pair{I: i, J: j})
		}
	}
	races(t, "each with each", all, want...)
}

// TestVeryLongLists has races whose events are far apart, and pairs that must be told in the order of the second event,
// wherever their first one is.
func TestVeryLongLists(t *testing.T) {
	const n = 100_000
	l := make([]api.Event, n)
	for i := range l {
		l[i].Thread = 5 + i%3
	}
	l[10], l[20_000], l[50_000] = ev(0, api.Write, 1), ev(1, api.Write, 1), ev(2, api.Write, 1)
	l[16_383], l[16_384], l[16_385] = ev(0, api.Write, 2), ev(1, api.Write, 2), ev(2, api.Read, 2)
	l[32_767], l[40_000], l[99_997], l[99_998], l[99_999] = ev(3, api.Read, 3), ev(3, api.Put, 3), ev(4, api.Get, 3), ev(4, api.Write, 3), ev(4, api.Write, 1)
	races(t, "a very long list", l,
		api.Pair{I: 16_383, J: 16_384}, api.Pair{I: 16_383, J: 16_385}, api.Pair{I: 16_384, J: 16_385},
		api.Pair{I: 10, J: 20_000}, api.Pair{I: 10, J: 50_000}, api.Pair{I: 20_000, J: 50_000},
		api.Pair{I: 10, J: 99_999}, api.Pair{I: 20_000, J: 99_999}, api.Pair{I: 50_000, J: 99_999})
	if !order.Before(l, 0, 99_996) || order.Before(l, 0, 99_995) || !order.Before(l, 32_767, 99_998) || order.Before(l, 32_768, 99_998) {
		t.Error("D1: a very long list")
	}
	for i := range l { // as many threads as events, and as many variables
		l[i] = ev(i, api.Write, i)
	}
	races(t, "many threads", l)
}

func TestEventsAreNeitherChangedNorKept(t *testing.T) {
	l := []api.Event{ev(0, api.Write, 0), ev(0, api.Spawn, 1), ev(0, api.Write, 0), ev(1, api.Read, 0), ev(2, api.Write, 0), ev(2, api.Join, 1), ev(2, api.Read, 0)}
	same := slices.Clone(l)
	first, second := order.Races(l), order.Races(l)
	order.Before(l, 0, 6)
	if !slices.Equal(l, same) {
		t.Errorf("G4: %v was %v", l, same)
	}
	want := slices.Clone(first)
	clear(l)
	if !slices.Equal(first, want) || len(want) < 4 {
		t.Errorf("G4: a change of the events is seen: %v, not %v", first, want)
	}
	first = first[:cap(first)]
	clear(first)
	if !slices.Equal(second, want) || !slices.Equal(order.Races(same), want) {
		t.Errorf("G4: two answers share memory: %v, not %v", second, want)
	}
}
