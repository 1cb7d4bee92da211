package fast

import (
	"testing"

	"weave/api"
)

func ev(thread, kind, obj int) api.Event { return api.Event{Thread: thread, Kind: kind, Obj: obj} }

func seen(l ...api.Event) *Detector {
	d := New()
	for _, e := range l {
		d.See(e)
	}
	return d
}

// TestAnEpochIsEnough: no reads beside the last one are kept as long as each is before the next one.
func TestAnEpochIsEnough(t *testing.T) {
	d := New()
	for k := range 1000 {
		d.See(ev(k, api.Read, 0))
		d.See(ev(k, api.Spawn, k+1))
		if v := d.kept[0]; v.reads != nil || v.read != (epoch{k, 1}) {
			t.Fatalf("H3: behind %d reads in order: %v", k+1, v)
		}
	}
	d.See(ev(-5, api.Read, 0))
	if v := d.kept[0]; len(v.reads) != 1 || v.read != (epoch{-5, 1}) {
		t.Errorf("H3: behind a read out of order: %v", v)
	}
}

func TestAWriteIsAllThatIsKept(t *testing.T) {
	d := seen(ev(0, api.Write, 0), ev(0, api.Spawn, 1), ev(0, api.Spawn, 2), ev(1, api.Read, 0), ev(2, api.Read, 0), ev(3, api.Join, 1), ev(3, api.Join, 2))
	if v := d.kept[0]; v.write != (epoch{0, 1}) || v.read != (epoch{2, 1}) || len(v.reads) != 1 {
		t.Errorf("H3: %v", v)
	}
	d.See(ev(3, api.Write, 0))
	if v := d.kept[0]; v.write != (epoch{3, 1}) || v.read != (epoch{}) || v.reads != nil {
		t.Errorf("H3: behind a write there is more than it: %v", v)
	}
}

// TestReadsThatAreBeforeOthersAreForgotten: of the reads that are kept at most some more than half are before another one.
func TestReadsThatAreBeforeOthersAreForgotten(t *testing.T) {
	d := New()
	for k := range 2000 { // two chains that know nothing of one another
		d.See(ev(k, api.Read, 0))
		d.See(ev(k, api.Spawn, k+2))
		if v := d.kept[0]; len(v.reads) > 4 {
			t.Fatalf("H3: behind %d reads %d are kept", k+1, len(v.reads))
		}
	}
	for k := range 3000 {
		d.See(ev(-1-k, api.Read, 0))
	}
	if v := d.kept[0]; len(v.reads) < 3000 {
		t.Errorf("H3: %d reads are kept, of 3002", len(v.reads))
	}
}

func TestARaceIsForgotten(t *testing.T) {
	d := seen(ev(0, api.Read, 0), ev(1, api.Read, 0), ev(0, api.Write, 1), ev(2, api.Write, 0))
	if _, ok := d.kept[0]; ok || len(d.kept) != 1 {
		t.Errorf("H3: behind its first race a variable is kept: %v", d.kept)
	}
	count := d.flow.Next(ev(2, api.Local, 0), false).Of(2)
	d.See(ev(2, api.Write, 0))
	d.See(ev(5, api.Read, 0))
	if s := d.flow.Next(ev(2, api.Local, 0), false); s.Of(2) != count || len(d.kept) != 1 {
		t.Errorf("H3: behind its first race a variable's accesses count: %v, %v", s, d.kept)
	}
}

// TestManyReaders has one read of each of many threads, and a write that is behind all of them, or all but one.
func TestManyReaders(t *testing.T) {
	const n = 1500
	for _, missed := range []int{-1, 0, 1, 63, 64, 700, n - 2, n - 1} {
		d := New()
		for k := range n {
			d.See(ev(k, api.Read, 0))
		}
		for k := range n {
			if k != missed {
				d.See(ev(-1, api.Join, k))
			}
		}
		if got := d.See(ev(-1, api.Write, 0)); got != (missed >= 0) {
			t.Errorf("H1: a write behind all reads but %d: See is %v", missed, got)
		}
	}
}

// TestVeryManyReaders would take minutes if each read were held against all that are kept.
func TestVeryManyReaders(t *testing.T) {
	l := make([]api.Event, 200_000)
	for k := range l {
		l[k] = ev(k, api.Read, 0)
	}
	if got := First(l, 0); got != -1 {
		t.Errorf("H2: reads alone: %d", got)
	}
	if got := First(append(l, ev(7, api.Write, 0)), 0); got != len(l) {
		t.Errorf("H2: reads and a write: %d", got)
	}
}

// TestManyThreads has more of them than are stamped, and than clock.Tick counts.
func TestManyThreads(t *testing.T) {
	for _, n := range []int{65, 1002, 1500, 20_000} {
		var l []api.Event
		for k := range n { // each with a variable of its own, each spawned by the one ahead of it
			l = append(l, ev(k, api.Write, k), ev(k, api.Spawn, k+1))
		}
		d := seen(l...)
		if d.See(ev(n, api.Write, 0)) || d.See(ev(n, api.Write, n/2)) || d.See(ev(n, api.Read, n-1)) {
			t.Errorf("H1: a race at the end of a chain of %d threads", n)
		}
		if !d.See(ev(n/2, api.Read, n/2)) || !d.See(ev(-1, api.Read, n-1)) || !d.See(ev(n-1, api.Write, 0)) || d.See(ev(n/2, api.Read, n/2-1)) {
			t.Errorf("H1: no race beside a chain of %d threads", n)
		}
	}
}
