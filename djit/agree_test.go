package djit_test

import (
	"math"
	"math/rand"
	"slices"
	"testing"

	"weave/api"
	"weave/code"
	"weave/djit"
	"weave/order"
	"weave/run"
)

// count does what F1 says, one by one: how many events of a thread are event j, or before it.
func count(l []api.Event, thread, j int) int {
	n := 0
	for i, e := range l {
		if e.Thread == thread && (i == j || order.Before(l, i, j)) {
			n++
		}
	}
	return n
}

func trimmed(v []int) []int {
	for len(v) > 0 && v[len(v)-1] == 0 {
		v = v[:len(v)-1]
	}
	return v
}

// agreeOnStamps asks for F1, by the definition of what is before.
func agreeOnStamps(t *testing.T, l []api.Event, threads int) {
	t.Helper()
	got := djit.Stamps(l, threads)
	if len(got) != len(l) {
		t.Fatalf("F1: %d stamps of %v", len(got), l)
	}
	for j := range l {
		want := make([]int, threads)
		for thread := range want {
			want[thread] = count(l, thread, j)
		}
		if !slices.Equal(got[j], trimmed(want)) {
			t.Fatalf("F1: Stamps(%v, %d): stamp %d is %v, not %v", l, threads, j, got[j], want)
		}
	}
}

// agreeOnOrder asks for F3, of a list whose threads are all stamped; it tells how many pairs are in order.
func agreeOnOrder(t *testing.T, l []api.Event, threads int) (ordered int) {
	t.Helper()
	stamps := djit.Stamps(l, threads)
	number := make([]int, threads)
	for i, e := range l {
		number[e.Thread]++
		k := number[e.Thread]
		for j := range l {
			if i == j {
				continue
			}
			told := j > i && e.Thread < len(stamps[j]) && stamps[j][e.Thread] >= k
			if told != order.Before(l, i, j) {
				t.Fatalf("F3: %v: %d is before %d: %v, by the stamps", l, i, j, told)
			}
			if told {
				ordered++
			}
		}
	}
	return ordered
}

// agreeOnRaces asks for F2, by the races of chapter 3; it tells how many events race.
func agreeOnRaces(t *testing.T, l []api.Event) (racing int) {
	t.Helper()
	want := make([]bool, len(l))
	for _, p := range order.Races(l) {
		want[p.J] = true
	}
	if got := djit.Racy(l); !slices.Equal(got, want) {
		t.Fatalf("F2: Racy(%v) = %v, want %v", l, got, want)
	}
	for _, races := range want {
		if races {
			racing++
		}
	}
	return racing
}

// randomList is of no run: few numbers, so that they meet.
func randomList(rnd *rand.Rand, n int, numbers []int) []api.Event {
	l := make([]api.Event, n)
	kinds := []int{14, 3, 11}[rnd.Intn(3)]
	number := func() int { return numbers[rnd.Intn(len(numbers))] }
	for i := range l {
		l[i] = api.Event{Thread: number(), Kind: rnd.Intn(kinds) - kinds/14, Obj: number(), Value: number()}
		if rnd.Intn(2) == 0 {
			l[i].Kind = api.Read + rnd.Intn(2)
		}
	}
	return l
}

func TestRandomListsAgree(t *testing.T) {
	rnd := rand.New(rand.NewSource(3))
	numbers := []int{0, 1, 2, 3, -1, math.MaxInt, math.MinInt, 64, 63, 1 << 32, -64, 65}
	racing := 0
	for round := range 3000 {
		n := rnd.Intn(20)
		if round%100 == 0 {
			n = 70 + rnd.Intn(60)
		}
		l := randomList(rnd, n, numbers[:1+round%len(numbers)])
		agreeOnStamps(t, l, []int{0, 1, 3, 5, 63, 64}[rnd.Intn(6)])
		racing += agreeOnRaces(t, l)
	}
	if racing < 5000 {
		t.Errorf("only %d events race: the lists have lost their use", racing)
	}
}

func TestRandomListsHaveTheirOrder(t *testing.T) {
	rnd := rand.New(rand.NewSource(4))
	numbers := []int{0, 1, 2, 3, 4, 63, 62, 31}
	ordered := 0
	for range 1000 {
		l := randomList(rnd, rnd.Intn(30), numbers[:1+rnd.Intn(len(numbers))])
		ordered += agreeOnOrder(t, l, 64)
	}
	if ordered < 20_000 {
		t.Errorf("only %d pairs are in order: the lists have lost their use", ordered)
	}
}

// TestRandomRunsAgree goes along runs of programs that have all kinds of events.
func TestRandomRunsAgree(t *testing.T) {
	rnd := rand.New(rand.NewSource(8))
	racing, ordered := 0, 0
	for _, text := range []string{
		"var x\nthread a\nspawn b\nstore x 1\nthread b\nload r0 x",
		"var x\nlock m\nthread a\nspawn b\nlock m\nstore x 1\nunlock m\nthread b\nlock m\nload r0 x\nunlock m\nstore x 2",
		"var x y\nflag f\nthread a\nspawn b\nspawn c\nstore x 1\nput f 1\njoin b\nload r1 y\nthread b\nget r1 f\njeq r1 0 out\nload r0 x\nout:\nstore y 1\nthread c\nstore x 3\njoin b\nstore y 2\ncheck 0 1",
		"var x y\nlock m\nthread a\nspawn b\nspawn c\nlock m\nstore x 1\nstore y 1\nunlock m\njoin c\nload r0 y\nthread b\nload r0 y\nlock m\nload r1 x\nunlock m\nthread c\nunlock m\nstore y 1",
	} {
		p, errno, line := code.Parse(text)
		if errno != api.OK {
			t.Fatalf("Parse(%q) = %d, line %d", text, errno, line)
		}
		for range 200 {
			schedule := make([]int, rnd.Intn(60))
			for i := range schedule {
				schedule[i] = rnd.Intn(4)
			}
			l, _ := run.Run(p, schedule)
			agreeOnStamps(t, l, 3)
			racing += agreeOnRaces(t, l)
			ordered += agreeOnOrder(t, l, 3)
		}
	}
	if racing < 200 || ordered < 10_000 {
		t.Errorf("only %d events race, and %d pairs are in order: the runs have lost their use", racing, ordered)
	}
}
