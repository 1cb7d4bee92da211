package fast_test

import (
	"math"
	"slices"
	"testing"

	"weave/api"
	"weave/fast"
)

func ev(thread, kind, obj int) api.Event { return api.Event{Thread: thread, Kind: kind, Obj: obj} }

// firsts asks which events are first races, by their numbers, and all that follows from it.
func firsts(t *testing.T, what string, l []api.Event, want ...int) {
	t.Helper()
	d := fast.New()
	var racy []int
	for n, e := range l {
		if got := d.See(e); got != slices.Contains(want, n) {
			t.Errorf("H1: %s: See of event %d is %v", what, n, got)
		}
		if slices.Contains(want, n) {
			racy = append(racy, e.Obj)
			slices.Sort(racy)
		}
		if got := d.Racy(); !slices.Equal(got, racy) || (got == nil) != (racy == nil) {
			t.Errorf("H1: %s: Racy behind event %d is %v, not %v", what, n, got, racy)
		}
	}
	for n, e := range l {
		first := -1
		for _, w := range want {
			if l[w].Obj == e.Obj {
				first = w
			}
		}
		if got := fast.First(l, e.Obj); got != first {
			t.Errorf("H2: %s: First of the variable %d (of event %d) is %d, not %d", what, e.Obj, n, got, first)
		}
	}
}

func TestFirstRaces(t *testing.T) {
	firsts(t, "no events", nil)
	firsts(t, "one event", []api.Event{ev(0, api.Write, 7)})
	firsts(t, "with a write", []api.Event{ev(0, api.Write, 7), ev(1, api.Write, 7)}, 1)
	firsts(t, "a read with a write", []api.Event{ev(0, api.Write, 7), ev(1, api.Read, 7)}, 1)
	firsts(t, "with a read", []api.Event{ev(0, api.Read, 7), ev(1, api.Write, 7)}, 1)
	firsts(t, "reads alone", []api.Event{ev(0, api.Read, 7), ev(1, api.Read, 7), ev(2, api.Read, 7), ev(0, api.Read, 7)})
	firsts(t, "with several reads", []api.Event{ev(0, api.Read, 7), ev(1, api.Read, 7), ev(2, api.Read, 7), ev(3, api.Write, 7)}, 3)
	firsts(t, "with a write and a read", []api.Event{ev(0, api.Write, 7), ev(0, api.Spawn, 1), ev(1, api.Read, 7), ev(2, api.Write, 7)}, 3)
	firsts(t, "one thread", []api.Event{ev(1, api.Write, 7), ev(1, api.Write, 7), ev(1, api.Read, 7), ev(1, api.Write, 7), ev(1, api.Read, 7)})
	firsts(t, "a thread of the number 0, whose first access it is", []api.Event{ev(5, api.Write, 7), ev(0, api.Write, 7)}, 1)
	firsts(t, "the variable 0", []api.Event{ev(0, api.Write, 0), ev(1, api.Write, 0)}, 1)
	firsts(t, "other variables", []api.Event{ev(0, api.Write, 7), ev(1, api.Write, -7), ev(2, api.Read, 8), ev(3, api.Write, 6)})
	firsts(t, "what is no access", []api.Event{
		ev(0, api.Write, 7), ev(1, api.Put, 7), ev(2, api.Get, 7), ev(3, api.Lock, 7), ev(4, api.Write+64, 7), ev(5, -api.Read, 7), ev(6, api.Local, 7), ev(7, api.End, 7), ev(8, math.MinInt, 7),
	})
	firsts(t, "numbers at the ends", []api.Event{
		ev(math.MinInt, api.Write, math.MinInt), ev(math.MaxInt, api.Write, math.MaxInt), ev(0, api.Read, math.MaxInt), ev(-1, api.Read, math.MinInt),
	}, 2, 3)
}

func TestSecondRaces(t *testing.T) {
	firsts(t, "a second race of a variable", []api.Event{ev(0, api.Write, 7), ev(1, api.Write, 7), ev(2, api.Write, 7), ev(0, api.Read, 7), ev(3, api.Write, 7)}, 1)
	firsts(t, "a second one of the same threads", []api.Event{ev(0, api.Read, 7), ev(1, api.Write, 7), ev(0, api.Read, 7), ev(1, api.Write, 7)}, 1)
	firsts(t, "accesses in order behind the race, and then one that is not", []api.Event{
		ev(0, api.Write, 7), ev(1, api.Write, 7), ev(2, api.Join, 0), ev(2, api.Join, 1), ev(2, api.Write, 7), ev(3, api.Write, 7),
	}, 1)
	firsts(t, "several variables", []api.Event{
		ev(0, api.Write, 9), ev(0, api.Write, -3), ev(0, api.Write, 5), ev(1, api.Read, 5), ev(1, api.Read, 9), ev(1, api.Read, 5), ev(2, api.Write, 9), ev(1, api.Read, -3), ev(2, api.Write, -3),
	}, 3, 4, 7)
	firsts(t, "a race hides none of another variable, nor does it bring one about", []api.Event{
		ev(0, api.Write, 1), ev(0, api.Write, 2), ev(1, api.Write, 1), ev(0, api.Put, 0), ev(1, api.Get, 0), ev(1, api.Write, 2), ev(2, api.Write, 2),
	}, 2, 6)
}

// TestOrderBehindARace: what is done with a variable behind its first race is nothing any more, but for its thread's order.
func TestOrderBehindARace(t *testing.T) {
	raced := []api.Event{ev(0, api.Write, 1), ev(1, api.Write, 1)}
	firsts(t, "what spawned the thread", append(raced, ev(0, api.Write, 2), ev(0, api.Spawn, 5), ev(5, api.Read, 1), ev(6, api.Join, 5), ev(6, api.Write, 2)), 1)
	firsts(t, "what was ahead of it", append(raced, ev(0, api.Write, 2), ev(0, api.Read, 1), ev(0, api.Put, 0), ev(3, api.Get, 0), ev(3, api.Write, 1), ev(3, api.Write, 2)), 1)
	firsts(t, "it orders nothing", append(raced, ev(0, api.Write, 2), ev(0, api.Write, 1), ev(3, api.Read, 1), ev(3, api.Write, 2)), 1, 5)
}

func TestReads(t *testing.T) {
	inOrder := []api.Event{ev(0, api.Read, 7), ev(0, api.Put, 0), ev(1, api.Get, 0), ev(1, api.Read, 7), ev(1, api.Put, 1)}
	firsts(t, "in order, a write behind both", append(inOrder, ev(2, api.Get, 1), ev(2, api.Write, 7)))
	firsts(t, "in order, a write behind the first one alone", append(inOrder, ev(2, api.Get, 0), ev(2, api.Write, 7)), 6)
	firsts(t, "in order, a write behind none", append(inOrder, ev(2, api.Write, 7)), 5)
	firsts(t, "in order, a write of the first one's thread", append(inOrder, ev(0, api.Write, 7)), 5)
	firsts(t, "in order, a write of the last one's thread", append(inOrder, ev(1, api.Write, 7)))
	out := slices.Concat(inOrder, []api.Event{ev(3, api.Read, 7), ev(3, api.Put, 3)})
	for what, gets := range map[string]struct {
		flags []int
		races bool
	}{
		"behind all":            {[]int{1, 3}, false},
		"behind all, twice":     {[]int{0, 3, 1}, false},
		"behind the first one":  {[]int{0}, true},
		"behind the second one": {[]int{1}, true},
		"behind the third one":  {[]int{3}, true},
		"not behind the second": {[]int{3, 0}, true},
		"behind none":           {nil, true},
	} {
		l := slices.Clone(out)
		for _, f := range gets.flags {
			l = append(l, ev(4, api.Get, f))
		}
		var want []int
		if gets.races {
			want = append(want, len(l))
		}
		firsts(t, "in order, then out of order, a write "+what, append(l, ev(4, api.Write, 7)), want...)
	}
	back := slices.Concat(out, []api.Event{ev(5, api.Get, 1), ev(5, api.Get, 3), ev(5, api.Read, 7), ev(5, api.Put, 5)})
	firsts(t, "out of order, then in order, a write behind the last one", append(back, ev(6, api.Get, 5), ev(6, api.Write, 7)))
	firsts(t, "out of order, then in order, a write behind the others", append(back, ev(6, api.Get, 1), ev(6, api.Get, 3), ev(6, api.Write, 7)), len(back)+2)
	firsts(t, "out of order, each a second time, a write behind the first time", []api.Event{
		ev(0, api.Read, 7), ev(0, api.Put, 0), ev(1, api.Read, 7), ev(1, api.Put, 1), ev(0, api.Read, 7), ev(1, api.Read, 7), ev(2, api.Get, 0), ev(2, api.Get, 1), ev(2, api.Write, 7),
	}, 8)
	firsts(t, "out of order, one a second time, a write behind the first time", []api.Event{
		ev(0, api.Read, 7), ev(0, api.Put, 0), ev(1, api.Read, 7), ev(0, api.Read, 7), ev(1, api.Read, 7), ev(1, api.Put, 1), ev(2, api.Get, 0), ev(2, api.Get, 1), ev(2, api.Write, 7),
	}, 8)
}

func TestWrites(t *testing.T) {
	handed := []api.Event{ev(0, api.Write, 7), ev(0, api.Put, 0), ev(1, api.Get, 0), ev(1, api.Write, 7), ev(1, api.Put, 1)}
	firsts(t, "behind both", append(handed, ev(2, api.Get, 1), ev(2, api.Read, 7)))
	firsts(t, "behind the first one alone", append(handed, ev(2, api.Get, 0), ev(2, api.Read, 7)), 6)
	firsts(t, "a read of the first one's thread", append(handed, ev(0, api.Read, 7)), 5)
	firsts(t, "reads behind the write, and a write of the writer", append(handed, ev(2, api.Get, 1), ev(2, api.Read, 7), ev(1, api.Write, 7)), 7)
	firsts(t, "reads ahead of the write do not count any more", []api.Event{
		ev(0, api.Read, 7), ev(1, api.Read, 7), ev(2, api.Join, 0), ev(2, api.Join, 1), ev(2, api.Write, 7), ev(2, api.Spawn, 3), ev(3, api.Write, 7),
	})
	firsts(t, "a put behind the write alone hands it on", []api.Event{ev(0, api.Put, 0), ev(0, api.Write, 7), ev(1, api.Get, 0), ev(1, api.Write, 7)}, 3)
}

func TestEachWayOfOrder(t *testing.T) {
	for what, between := range map[string][]api.Event{
		"a lock":           {ev(0, api.Unlock, 5), ev(1, api.Lock, 5)},
		"a flag":           {ev(0, api.Put, 5), ev(1, api.Get, 5)},
		"a spawn":          {ev(0, api.Spawn, 1)},
		"a join":           {ev(1, api.Join, 0)},
		"a thread between": {ev(0, api.Put, 5), ev(-9, api.Get, 5), ev(-9, api.Spawn, 1)},
	} {
		for _, a := range []int{api.Read, api.Write} {
			for _, b := range []int{api.Read, api.Write} {
				if a == api.Read && b == api.Read {
					continue
				}
				l := slices.Concat([]api.Event{ev(0, a, 8)}, between, []api.Event{ev(1, b, 8)})
				firsts(t, what, l)
				l = slices.Concat([]api.Event{ev(0, a, 8)}, between, []api.Event{ev(0, a, 8), ev(1, b, 8)})
				firsts(t, what+", and an access behind it", l, len(l)-1)
				for gap := range between {
					l := slices.Concat([]api.Event{ev(0, a, 8)}, between, []api.Event{ev(1, b, 8)})
					l[1+gap].Kind = api.Local
					firsts(t, what+" with a gap", l, len(l)-1)
					l[1+gap] = between[gap]
					l[1+gap].Obj = 77
					firsts(t, what+" of another one", l, len(l)-1)
				}
			}
		}
	}
	firsts(t, "a spawn of a thread that does nothing, and a join of it", []api.Event{ev(2, api.Write, 0), ev(2, api.Spawn, 1), ev(0, api.Join, 1), ev(0, api.Write, 0)}, 3)
	firsts(t, "a spawn of a thread that ends, and a join of it", []api.Event{ev(2, api.Write, 0), ev(2, api.Spawn, 1), ev(1, api.End, 0), ev(0, api.Join, 1), ev(0, api.Write, 0)})
	firsts(t, "two spawns of a thread that runs already", []api.Event{
		ev(2, api.Local, 0), ev(0, api.Write, 0), ev(0, api.Spawn, 2), ev(1, api.Write, 1), ev(1, api.Spawn, 2), ev(2, api.Write, 0), ev(2, api.Write, 1),
	})
	firsts(t, "a spawn of itself, a join of itself", []api.Event{ev(0, api.Write, 0), ev(0, api.Spawn, 0), ev(0, api.Join, 0), ev(1, api.Write, 0)}, 3)
}

func TestFirstOfWhatThereIsNot(t *testing.T) {
	l := []api.Event{ev(0, api.Write, 3), ev(1, api.Put, 4), ev(1, api.Lock, 5), ev(1, api.Spawn, 6), ev(0, api.Read, 3), ev(1, api.Write, 7), ev(0, api.Write, 7)}
	for _, obj := range []int{3, 4, 5, 6, 0, -1, -3, 8, math.MaxInt, math.MinInt} {
		if got := fast.First(l, obj); got != -1 {
			t.Errorf("H2: First(%d) = %d", obj, got)
		}
		if got := fast.First(nil, obj); got != -1 {
			t.Errorf("H2: First(%d) of no events = %d", obj, got)
		}
	}
	if got := fast.First(l, 7); got != 6 {
		t.Errorf("H2: First(7) = %d", got)
	}
}

// TestTwoDetectors: each sees what it is shown, whatever the other one sees between.
func TestTwoDetectors(t *testing.T) {
	a, b := fast.New(), fast.New()
	if a.Racy() != nil || b.Racy() != nil {
		t.Error("H1: Racy before anything was seen")
	}
	if a.See(ev(0, api.Write, 1)) || b.See(ev(1, api.Write, 1)) || b.See(ev(1, api.Write, 2)) || a.See(ev(0, api.Put, 0)) || b.See(ev(2, api.Get, 0)) {
		t.Error("H1: detectors share what was accessed")
	}
	if !b.See(ev(2, api.Write, 2)) || a.See(ev(2, api.Write, 2)) {
		t.Error("H1: detectors share what is in order, or what has raced")
	}
	if !slices.Equal(b.Racy(), []int{2}) || a.Racy() != nil {
		t.Errorf("H1: %v, %v", a.Racy(), b.Racy())
	}
	if !a.See(ev(1, api.Read, 1)) || !a.See(ev(0, api.Write, 2)) || b.See(ev(1, api.Read, 1)) {
		t.Error("H1: detectors share what has raced")
	}
	if !slices.Equal(a.Racy(), []int{1, 2}) || !slices.Equal(b.Racy(), []int{2}) {
		t.Errorf("H1: %v, %v", a.Racy(), b.Racy())
	}
}

func TestAnswersAreNewMemory(t *testing.T) {
	d := fast.New()
	for _, obj := range []int{5, -1, 3} {
		d.See(ev(0, api.Write, obj))
		d.See(ev(1, api.Write, obj))
	}
	first, second := d.Racy(), d.Racy()
	first = first[:cap(first)]
	clear(first)
	if want := []int{-1, 3, 5}; !slices.Equal(second, want) || !slices.Equal(d.Racy(), want) {
		t.Errorf("G4: %v, %v, want %v", second, d.Racy(), want)
	}
	l := []api.Event{ev(0, api.Write, 0), ev(1, api.Write, 1), ev(1, api.Read, 2), ev(2, api.Read, 0)}
	same := slices.Clone(l)
	if fast.First(l, 0) != 3 || fast.First(l, 1) != -1 || !slices.Equal(l, same) {
		t.Errorf("G4: %v was %v", l, same)
	}
}
