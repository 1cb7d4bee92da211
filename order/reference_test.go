package order_test

import (
	"math"
	"math/rand"
	"slices"
	"testing"

	"weave/api"
	"weave/order"
)

// leads says the chapter's words again, one by one.
func leads(l []api.Event, i, j int) bool {
	a, b := l[i], l[j]
	return i < j && (a.Thread == b.Thread ||
		a.Kind == api.Unlock && b.Kind == api.Lock && a.Obj == b.Obj ||
		a.Kind == api.Put && b.Kind == api.Get && a.Obj == b.Obj ||
		a.Kind == api.Spawn && a.Obj == b.Thread ||
		b.Kind == api.Join && b.Obj == a.Thread)
}

// befores is the whole relation: of i and j, whether i is before j.
func befores(l []api.Event) [][]bool {
	before := make([][]bool, len(l))
	for i := len(l) - 1; i >= 0; i-- {
		before[i] = make([]bool, len(l))
		for k := i + 1; k < len(l); k++ {
			if !leads(l, i, k) {
				continue
			}
			before[i][k] = true
			for j := k + 1; j < len(l); j++ {
				before[i][j] = before[i][j] || before[k][j]
			}
		}
	}
	return before
}

func referenceRaces(l []api.Event, before [][]bool) []api.Pair {
	access := func(e api.Event) bool { return e.Kind == api.Read || e.Kind == api.Write }
	var pairs []api.Pair
	for j, b := range l {
		for i, a := range l[:j] {
			if access(a) && access(b) && a.Obj == b.Obj && a.Thread != b.Thread && (a.Kind == api.Write || b.Kind == api.Write) && !before[i][j] {
				pairs = append(pairs, api.Pair{I: i, J: j})
			}
		}
	}
	return pairs
}

func check(t *testing.T, l []api.Event) (pairs int) {
	t.Helper()
	before := befores(l)
	for i := range l {
		for j := range l {
			if got := order.Before(l, i, j); got != before[i][j] {
				t.Fatalf("D1: Before(%v, %d, %d) = %v", l, i, j, got)
			}
		}
	}
	want := referenceRaces(l, before)
	if got := order.Races(l); !slices.Equal(got, want) {
		t.Fatalf("D2: Races(%v) = %v, want %v", l, got, want)
	}
	return len(want)
}

// TestAgainstReference takes lists of events that are of no run: few threads and things, so that they meet.
func TestAgainstReference(t *testing.T) {
	rnd := rand.New(rand.NewSource(5))
	numbers := []int{0, 1, 2, 3, -1, math.MaxInt, math.MinInt, 64, 1 << 32}
	total := 0
	for round := range 3000 {
		number := func() int { return numbers[rnd.Intn(1+round%len(numbers))] }
		l := make([]api.Event, rnd.Intn(20))
		if round%100 == 0 {
			l = make([]api.Event, 100+rnd.Intn(50))
		}
		kinds := []int{14, 3, 11}[rnd.Intn(3)]
		for i := range l {
			l[i] = api.Event{Thread: number(), Kind: rnd.Intn(kinds) - kinds/14, Obj: number(), Value: number()}
			if rnd.Intn(2) == 0 {
				l[i].Kind = api.Read + rnd.Intn(2)
			}
		}
		total += check(t, l)
	}
	if total < 10_000 {
		t.Errorf("only %d pairs: the lists have lost their use", total)
	}
}
