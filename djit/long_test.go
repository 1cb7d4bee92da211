package djit_test

import (
	"slices"
	"testing"

	"weave/api"
	"weave/djit"
)

// TestMoreThan64Events has a thread that does as much, and one that knows all of it.
func TestMoreThan64Events(t *testing.T) {
	for _, n := range []int{63, 64, 65, 200, 5000} {
		l := make([]api.Event, n, n+3)
		l[0], l[n-1] = ev(0, api.Write, 9), ev(0, api.Put, 9)
		l = append(l, ev(1, api.Write, 9), ev(1, api.Get, 9), ev(1, api.Write, 9))
		got := djit.Stamps(l, 2)
		for j := range n {
			if !slices.Equal(got[j], []int{j + 1}) {
				t.Fatalf("F1: %d events: stamp %d is %v", n, j, got[j])
			}
		}
		if !slices.EqualFunc(got[n:], [][]int{{0, 1}, {n, 2}, {n, 3}}, slices.Equal[[]int]) {
			t.Errorf("F1: %d events: the last stamps are %v", n, got[n:])
		}
		racy(t, "a long list", l, n)
	}
}

// TestManyThreads has more of them than are stamped, than clock.Tick counts, and than Racy counts at a time.
func TestManyThreads(t *testing.T) {
	for _, n := range []int{65, 1002, 1<<14 + 1} {
		l := make([]api.Event, 0, 2*n)
		for k := range n { // each with a variable of its own, each spawned by the one ahead of it
			l = append(l, ev(k, api.Write, k), ev(k, api.Spawn, k+1))
		}
		racy(t, "a chain", append(l, ev(n, api.Write, 0), ev(n, api.Write, n/2), ev(n, api.Read, n-1)))
		racy(t, "beside a chain", append(l, ev(-1, api.Write, 0), ev(-1, api.Read, n/2), ev(-1, api.Read, n-1), ev(-1, api.Read, n)), 2*n, 2*n+1, 2*n+2)
		racy(t, "behind a part of a chain", append(l, ev(-1, api.Join, n/2), ev(-1, api.Read, n/2), ev(-1, api.Read, n/2+1), ev(-1, api.Write, 0), ev(-1, api.Read, n-1)), 2*n+2, 2*n+4)
		for k := range l { // one variable: all but the first thread race
			l[k] = ev(k, api.Read+k%2, 0)
		}
		want := make([]bool, len(l))
		for k := range want {
			want[k] = k > 0
		}
		if got := djit.Racy(l); !slices.Equal(got, want) {
			t.Errorf("F2: %d threads, one variable", len(l))
		}
	}
}

// TestFarApart has a race of the first and the last one of many threads, which are in different spans.
func TestFarApart(t *testing.T) {
	const n = 50_000
	l := make([]api.Event, n)
	for k := range l {
		l[k] = ev(k, api.Read, k)
	}
	l[n-2], l[n-1] = ev(n-1, api.Write, 0), ev(n-2, api.Write, 20_000)
	racy(t, "far apart", l, n-2, n-1)
	l[n-2], l[n-1] = ev(n-1, api.Join, 20_000), ev(n-1, api.Write, 20_000)
	racy(t, "far apart, in order", l)
	l[n-2], l[n-1] = ev(n-1, api.Join, 20_000), ev(n-1, api.Write, 20_001)
	racy(t, "far apart, behind another one", l, n-1)
}
