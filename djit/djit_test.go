package djit_test

import (
	"math"
	"slices"
	"testing"

	"weave/api"
	"weave/djit"
)

func ev(thread, kind, obj int) api.Event { return api.Event{Thread: thread, Kind: kind, Obj: obj} }

func stamps(t *testing.T, what string, l []api.Event, threads int, want ...[]int) {
	t.Helper()
	got := djit.Stamps(l, threads)
	if !slices.EqualFunc(got, want, slices.Equal[[]int]) {
		t.Errorf("F1: %s: Stamps(%v, %d) = %v, want %v", what, l, threads, got, want)
	}
	if (got == nil) != (want == nil) {
		t.Errorf("F1: %s: Stamps is nil: %v", what, got == nil)
	}
}

func TestStampsByEachWay(t *testing.T) {
	for _, c := range []struct {
		what string
		i, j api.Event
		want []int // the stamp of the second one, behind a first one of thread 0
	}{
		{"one thread", ev(0, api.Local, 0), ev(0, api.Read, 7), []int{2}},
		{"two threads", ev(0, api.Local, 0), ev(1, api.Local, 0), []int{0, 1}},
		{"unlock, lock", ev(0, api.Unlock, 5), ev(1, api.Lock, 5), []int{1, 1}},
		{"unlock, lock of another one", ev(0, api.Unlock, 5), ev(1, api.Lock, 6), []int{0, 1}},
		{"lock, unlock", ev(0, api.Lock, 5), ev(1, api.Unlock, 5), []int{0, 1}},
		{"put, get", ev(0, api.Put, 5), ev(1, api.Get, 5), []int{1, 1}},
		{"put, get of another one", ev(0, api.Put, 5), ev(1, api.Get, -5), []int{0, 1}},
		{"get, put", ev(0, api.Get, 5), ev(1, api.Put, 5), []int{0, 1}},
		{"put, put", ev(0, api.Put, 5), ev(1, api.Put, 5), []int{0, 1}},
		{"unlock, get", ev(0, api.Unlock, 5), ev(1, api.Get, 5), []int{0, 1}},
		{"put, lock", ev(0, api.Put, 5), ev(1, api.Lock, 5), []int{0, 1}},
		{"spawn, its thread", ev(0, api.Spawn, 1), ev(1, api.Write, 0), []int{1, 1}},
		{"spawn, another thread", ev(0, api.Spawn, 2), ev(1, api.Local, 2), []int{0, 1}},
		{"spawn, join of what has done nothing", ev(0, api.Spawn, 2), ev(1, api.Join, 2), []int{0, 1}},
		{"a thread, its join", ev(0, api.Write, 0), ev(1, api.Join, 0), []int{1, 1}},
		{"a thread, the join of another one", ev(0, api.End, 0), ev(1, api.Join, 2), []int{0, 1}},
		{"write, read", ev(0, api.Write, 5), ev(1, api.Read, 5), []int{0, 1}},
		{"a kind that is none", ev(0, api.Unlock+64, 5), ev(1, api.Lock+64, 5), []int{0, 1}},
		{"a kind below 0", ev(0, -api.Put, 5), ev(1, -api.Get, 5), []int{0, 1}},
		{"a spawn of itself", ev(0, api.Spawn, 0), ev(0, api.Local, 0), []int{2}},
		{"a join of itself", ev(0, api.Write, 0), ev(0, api.Join, 0), []int{2}},
	} {
		stamps(t, c.what, []api.Event{c.i, c.j}, 2, []int{1}, c.want)
	}
}

func TestStampsOfChains(t *testing.T) {
	stamps(t, "by all the ways", []api.Event{
		ev(0, api.Write, 0), ev(0, api.Put, 0), ev(1, api.Get, 0), ev(1, api.Unlock, 0), ev(2, api.Lock, 0), ev(2, api.Spawn, 3),
		ev(3, api.End, 0), ev(4, api.Join, 3), ev(0, api.Local, 0),
	}, 5, []int{1}, []int{2}, []int{2, 1}, []int{2, 2}, []int{2, 2, 1}, []int{2, 2, 2}, []int{2, 2, 2, 1}, []int{2, 2, 2, 1, 1}, []int{3})
	stamps(t, "earlier puts, too, and nothing behind them", []api.Event{
		ev(0, api.Put, 5), ev(1, api.Put, 5), ev(0, api.Local, 5), ev(2, api.Get, 5), ev(3, api.Get, 5),
	}, 4, []int{1}, []int{0, 1}, []int{2}, []int{1, 1, 1}, []int{1, 1, 0, 1})
	stamps(t, "two spawns of a thread that runs already", []api.Event{
		ev(2, api.Local, 0), ev(0, api.Spawn, 2), ev(1, api.Spawn, 2), ev(2, api.Local, 0), ev(1, api.Spawn, 2), ev(2, api.Local, 0),
	}, 3, []int{0, 0, 1}, []int{1}, []int{0, 1}, []int{1, 1, 2}, []int{0, 2}, []int{1, 2, 3})
	stamps(t, "a join in the middle of what is joined", []api.Event{
		ev(1, api.Local, 0), ev(0, api.Join, 1), ev(1, api.Local, 0), ev(0, api.Local, 0), ev(0, api.Join, 1),
	}, 2, []int{0, 1}, []int{1, 1}, []int{0, 2}, []int{2, 1}, []int{3, 2})
}

// TestSpawnOfAThreadThatDoesNothing: what is ahead of the spawn is not before the join, until the thread does something.
func TestSpawnOfAThreadThatDoesNothing(t *testing.T) {
	stamps(t, "it does nothing", []api.Event{ev(2, api.Write, 0), ev(2, api.Spawn, 1), ev(0, api.Join, 1)}, 3, []int{0, 0, 1}, []int{0, 0, 2}, []int{1})
	stamps(t, "it ends", []api.Event{ev(2, api.Spawn, 1), ev(1, api.End, 0), ev(0, api.Join, 1)}, 3, []int{0, 0, 1}, []int{0, 1, 1}, []int{1, 1, 1})
	stamps(t, "it did something ahead of the spawn alone", []api.Event{ev(1, api.Local, 0), ev(2, api.Spawn, 1), ev(0, api.Join, 1)}, 3,
		[]int{0, 1}, []int{0, 0, 1}, []int{1, 1})
	stamps(t, "it does something behind the join alone", []api.Event{ev(2, api.Spawn, 1), ev(0, api.Join, 1), ev(1, api.Local, 0)}, 3,
		[]int{0, 0, 1}, []int{1}, []int{0, 1, 1})
	racy(t, "it does nothing", []api.Event{ev(2, api.Write, 0), ev(2, api.Spawn, 1), ev(0, api.Join, 1), ev(0, api.Write, 0)}, 3)
	racy(t, "it ends", []api.Event{ev(2, api.Write, 0), ev(2, api.Spawn, 1), ev(1, api.End, 0), ev(0, api.Join, 1), ev(0, api.Write, 0)})
}

func TestHowManyThreadsAreStamped(t *testing.T) {
	l := []api.Event{ev(0, api.Put, 1), ev(63, api.Get, 1), ev(64, api.Local, 1), ev(63, api.Put, 1), ev(64, api.Get, 1)}
	for _, threads := range []int{-1, -2, -64, 65, 66, 128, 1000, math.MinInt, math.MaxInt, math.MinInt + 64, 1 << 32} {
		stamps(t, "out of bounds", l, threads)
		stamps(t, "out of bounds, of no events", nil, threads)
	}
	stamps(t, "none", l, 0, nil, nil, nil, nil, nil)
	stamps(t, "one", l, 1, []int{1}, []int{1}, nil, []int{1}, []int{1})
	stamps(t, "all but the last one", l, 63, []int{1}, []int{1}, nil, []int{1}, []int{1})
	both := func(n int) []int { return append(append([]int{1}, make([]int, 62)...), n) }
	stamps(t, "as many as may be", l, 64, []int{1}, both(1), nil, both(2), both(2))
	for _, threads := range []int{0, 1, 64} {
		stamps(t, "no events", nil, threads)
		stamps(t, "no events", []api.Event{}, threads)
	}
}

// TestThreadsThatAreNotStamped stand between others, and hand on what these know.
func TestThreadsThatAreNotStamped(t *testing.T) {
	for _, other := range []int{-1, -2, 2, 3, 63, 64, 65, 66, -62, -63, -64, 128, 1001, math.MaxInt, math.MinInt, math.MinInt + 1} {
		stamps(t, "a thread between", []api.Event{
			ev(0, api.Put, 0), ev(other, api.Get, 0), ev(other, api.Unlock, 0), ev(1, api.Lock, 0), ev(other, api.Local, 0), ev(0, api.Local, 0),
		}, 2, []int{1}, []int{1}, []int{1}, []int{1, 1}, []int{1}, []int{2})
		stamps(t, "a spawn and a join between", []api.Event{
			ev(0, api.Spawn, other), ev(other, api.End, 0), ev(1, api.Join, other),
		}, 2, []int{1}, []int{1}, []int{1, 1})
		stamps(t, "it spawns, and joins", []api.Event{
			ev(other, api.Join, 0), ev(0, api.Local, 0), ev(other, api.Join, 0), ev(other, api.Spawn, 1), ev(1, api.Local, 0), ev(other, api.Local, 0),
		}, 2, nil, []int{1}, []int{1}, []int{1}, []int{1, 1}, []int{1})
	}
}

// TestFarNumbers has numbers whose differences are beyond an int.
func TestFarNumbers(t *testing.T) {
	l := []api.Event{ev(math.MinInt, api.Unlock, math.MaxInt), ev(0, api.Lock, math.MinInt), ev(math.MaxInt, api.Lock, math.MaxInt), ev(1, api.Join, math.MaxInt)}
	stamps(t, "numbers at the ends", l, 64, nil, []int{1}, nil, []int{0, 1})
	racy(t, "numbers at the ends", []api.Event{
		ev(math.MinInt, api.Write, math.MinInt), ev(math.MaxInt, api.Read, math.MinInt), ev(0, api.Write, math.MaxInt), ev(math.MinInt, api.Read, math.MinInt),
	}, 1)
}

// racy asks which events race with one ahead of them, by their numbers.
func racy(t *testing.T, what string, l []api.Event, want ...int) {
	t.Helper()
	got := djit.Racy(l)
	if len(got) != len(l) || (got == nil) != (len(l) == 0) {
		t.Fatalf("F2: %s: %d answers for %d events", what, len(got), len(l))
	}
	for j, races := range got {
		if races != slices.Contains(want, j) {
			t.Errorf("F2: %s: event %d races: %v", what, j, races)
		}
	}
}

func TestRacy(t *testing.T) {
	racy(t, "no events", nil)
	racy(t, "no events", []api.Event{})
	racy(t, "one event", []api.Event{ev(0, api.Write, 0)})
	racy(t, "write, write", []api.Event{ev(0, api.Write, 7), ev(1, api.Write, 7)}, 1)
	racy(t, "write, read", []api.Event{ev(0, api.Write, 7), ev(1, api.Read, 7)}, 1)
	racy(t, "read, write", []api.Event{ev(0, api.Read, 7), ev(1, api.Write, 7)}, 1)
	racy(t, "read, read", []api.Event{ev(0, api.Read, 7), ev(1, api.Read, 7)})
	racy(t, "one thread", []api.Event{ev(1, api.Write, 7), ev(1, api.Write, 7), ev(1, api.Read, 7), ev(1, api.Write, 7)})
	racy(t, "other variables", []api.Event{ev(0, api.Write, 7), ev(1, api.Write, -7), ev(2, api.Read, 8), ev(3, api.Write, 6)})
	racy(t, "what is no access", []api.Event{ev(0, api.Write, 7), ev(1, api.Put, 7), ev(2, api.Get, 7), ev(3, api.Lock, 7), ev(4, api.Write+64, 7), ev(5, -api.Read, 7), ev(6, api.Local, 7)})
	racy(t, "with several", []api.Event{ev(0, api.Write, 7), ev(1, api.Read, 7), ev(2, api.Read, 7), ev(3, api.Write, 7), ev(0, api.Read, 7)}, 1, 2, 3, 4)
	racy(t, "with the first one of several alone", []api.Event{ev(0, api.Write, 7), ev(1, api.Write, 7), ev(1, api.Spawn, 2), ev(2, api.Read, 7)}, 1, 3)
	racy(t, "with the last one of several alone", []api.Event{ev(0, api.Write, 7), ev(0, api.Spawn, 2), ev(1, api.Write, 7), ev(2, api.Read, 7)}, 2, 3)
	racy(t, "a read behind a race that races no more", []api.Event{ev(0, api.Write, 7), ev(1, api.Write, 7), ev(2, api.Join, 0), ev(2, api.Join, 1), ev(2, api.Read, 7), ev(2, api.Write, 7)}, 1)
	racy(t, "reads out of order, and a write behind one of them", []api.Event{ev(0, api.Read, 7), ev(1, api.Read, 7), ev(2, api.Join, 1), ev(2, api.Write, 7), ev(2, api.Join, 0), ev(2, api.Write, 7)}, 3)
}

func TestRacyOfWhatIsInOrder(t *testing.T) {
	w0, w1, r1 := ev(0, api.Write, 0), ev(1, api.Write, 0), ev(1, api.Read, 0)
	for what, between := range map[string][]api.Event{
		"a lock":           {ev(0, api.Unlock, 5), ev(1, api.Lock, 5)},
		"a flag":           {ev(0, api.Put, 5), ev(1, api.Get, 5)},
		"a spawn":          {ev(0, api.Spawn, 1)},
		"a join":           {ev(1, api.Join, 0)},
		"a thread between": {ev(0, api.Put, 5), ev(-9, api.Get, 5), ev(-9, api.Put, 6), ev(1, api.Get, 6)},
	} {
		for _, last := range []api.Event{w1, r1} {
			l := slices.Concat([]api.Event{w0}, between, []api.Event{last})
			racy(t, what, l)
			l = slices.Concat([]api.Event{w0}, between, []api.Event{w0, last})
			racy(t, what+", and a write behind it", l, len(l)-1)
		}
	}
}

func TestEventsAreNeitherChangedNorKept(t *testing.T) {
	l := []api.Event{ev(0, api.Write, 0), ev(0, api.Put, 1), ev(7, api.Get, 1), ev(7, api.Put, 2), ev(1, api.Get, 2), ev(1, api.Write, 0), ev(2, api.Read, 0), ev(7, api.Get, 3)}
	same := slices.Clone(l)
	first, second := djit.Stamps(l, 3), djit.Stamps(l, 3)
	races, again := djit.Racy(l), djit.Racy(l)
	if !slices.Equal(l, same) {
		t.Errorf("G4: %v was %v", l, same)
	}
	clear(l)
	want := [][]int{{1}, {2}, {2}, {2}, {2, 1}, {2, 2}, {0, 0, 1}, {2}}
	if !slices.EqualFunc(first, want, slices.Equal[[]int]) {
		t.Errorf("G4: a change of the events is seen: %v, not %v", first, want)
	}
	for j, v := range first { // nor does one of an answer's lists share memory with another one, behind its end either
		v = v[:cap(v)]
		for k := range v {
			v[k] = -5
		}
		if rest := first[j+1:]; !slices.EqualFunc(rest, want[j+1:], slices.Equal[[]int]) {
			t.Fatalf("G4: stamp %d shares memory with a later one: %v", j, rest)
		}
	}
	if !slices.EqualFunc(second, want, slices.Equal[[]int]) || !slices.EqualFunc(djit.Stamps(same, 3), want, slices.Equal[[]int]) {
		t.Errorf("G4: two answers share memory: %v, not %v", second, want)
	}
	for k := range races {
		races[k] = !races[k]
	}
	if want := []bool{false, false, false, false, false, false, true, false}; !slices.Equal(again, want) || !slices.Equal(djit.Racy(same), want) {
		t.Errorf("G4: two answers share memory: %v, not %v", again, want)
	}
}
