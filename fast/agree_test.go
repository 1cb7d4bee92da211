package fast_test

import (
	"math"
	"math/rand"
	"slices"
	"testing"

	"weave/api"
	"weave/code"
	"weave/djit"
	"weave/fast"
	"weave/order"
	"weave/run"
)

// agree asks that the three ways tell the same: the definition's races, the stamps', and the detector's. It tells how
// many variables race, and how many events do.
func agree(t *testing.T, l []api.Event) (variables, events int) {
	t.Helper()
	races := make([]bool, len(l))
	for _, p := range order.Races(l) {
		races[p.J] = true
	}
	if got := djit.Racy(l); !slices.Equal(got, races) {
		t.Fatalf("F2: Racy(%v) = %v, want %v", l, got, races)
	}
	d, first := fast.New(), map[int]int{}
	for j, e := range l {
		_, had := first[e.Obj]
		want := races[j] && !had
		if got := d.See(e); got != want {
			t.Fatalf("H1: %v: See of event %d is %v", l, j, got)
		}
		if want {
			first[e.Obj] = j
		}
		if races[j] {
			events++
		}
	}
	asked := map[int]bool{}
	for _, e := range l {
		if asked[e.Obj] {
			continue
		}
		asked[e.Obj] = true
		j, had := first[e.Obj]
		if !had {
			j = -1
		}
		if got := fast.First(l, e.Obj); got != j {
			t.Fatalf("H2: First(%v, %d) = %d, not %d", l, e.Obj, got, j)
		}
	}
	var racy []int
	for obj := range first {
		racy = append(racy, obj)
	}
	slices.Sort(racy)
	if got := d.Racy(); !slices.Equal(got, racy) {
		t.Fatalf("H1: %v: Racy is %v, not %v", l, got, racy)
	}
	return len(racy), events
}

// randomList is of no run: few numbers, so that they meet. The more events there are that order others, and the fewer
// writes, the later the first races come.
func randomList(rnd *rand.Rand, n int, threads, objs []int) []api.Event {
	kinds := [][]int{
		{-1, 0, 1, 2, 3, 4, 5, 6, 7, 8, 9, 10, 11, 12},
		{api.Read, api.Write, api.Read, api.Write, api.Lock, api.Unlock, api.Put, api.Get, api.Spawn, api.Join},
		{api.Read, api.Read, api.Read, api.Read, api.Write, api.Lock, api.Lock, api.Unlock, api.Unlock, api.Join, api.Spawn},
		{api.Read, api.Write, api.Lock, api.Lock, api.Lock, api.Unlock, api.Unlock, api.Unlock, api.Put, api.Put, api.Get, api.Get},
	}[rnd.Intn(4)]
	l := make([]api.Event, n)
	for i := range l {
		l[i] = api.Event{Thread: threads[rnd.Intn(len(threads))], Kind: kinds[rnd.Intn(len(kinds))], Obj: objs[rnd.Intn(len(objs))], Value: rnd.Intn(3)}
		if l[i].Kind == api.Spawn || l[i].Kind == api.Join {
			l[i].Obj = threads[rnd.Intn(len(threads))]
		}
	}
	return l
}

func TestRandomListsAgree(t *testing.T) {
	rnd := rand.New(rand.NewSource(6))
	numbers := []int{0, 1, 2, 3, -1, math.MaxInt, math.MinInt, 64, 63, 1 << 32, -64, 65}
	variables, events := 0, 0
	for round := range 10_000 {
		n := rnd.Intn(40)
		if round%20 == 0 {
			n = 65 + rnd.Intn(100)
		}
		l := randomList(rnd, n, numbers[:1+round%len(numbers)], numbers[:1+rnd.Intn(len(numbers))])
		v, e := agree(t, l)
		variables += v
		events += e
	}
	if variables < 5000 || events < 2*variables {
		t.Errorf("only %d variables and %d events race: the lists have lost their use", variables, events)
	}
}

// TestRandomReadersAgree: one variable with many readers, which now and then know of one another, and few writes.
func TestRandomReadersAgree(t *testing.T) {
	rnd := rand.New(rand.NewSource(9))
	late, never := 0, 0
	for range 1500 {
		threads := 2 + rnd.Intn(12)
		l := make([]api.Event, 150)
		for i := range l {
			l[i] = ev(rnd.Intn(threads), api.Read, 0)
			switch rnd.Intn(10) {
			case 0, 1:
				l[i] = ev(l[i].Thread, api.Unlock, 0)
			case 2, 3, 4:
				l[i] = ev(l[i].Thread, api.Lock, 0)
			case 5:
				l[i] = ev(l[i].Thread, api.Join, rnd.Intn(threads))
			case 6:
				if i > 60 && rnd.Intn(10) == 0 { // by one that knows all that went on
					l[i-1], l[i] = ev(0, api.Join, rnd.Intn(threads)), ev(0, api.Write, 0)
					for k := range threads {
						l[i-2-k] = ev(0, api.Join, k)
					}
				}
			}
		}
		agree(t, l)
		switch first := fast.First(l, 0); {
		case first == -1:
			never++
		case first > 60:
			late++
		}
	}
	if late < 200 || never < 200 {
		t.Errorf("%d late races and %d lists without: the lists have lost their use", late, never)
	}
}

// TestRandomRunsAgree goes along runs of programs that have all kinds of events.
func TestRandomRunsAgree(t *testing.T) {
	rnd := rand.New(rand.NewSource(10))
	for text, races := range map[string]bool{
		"var x\nthread a\nspawn b\nstore x 1\nthread b\nload r0 x":                                                                       true,
		"var x\nlock m\nthread a\nspawn b\nlock m\nstore x 1\nunlock m\nthread b\nlock m\nload r0 x\nunlock m":                           false,
		"var x\nlock m\nthread a\nspawn b\nlock m\nstore x 1\nunlock m\nthread b\nlock m\nload r0 x\nunlock m\nstore x 2":                true,
		"var x\nflag f\nthread a\nspawn b\nstore x 1\nput f 1\nthread b\nget r1 f\njeq r1 0 out\nload r0 x\nout:":                        false,
		"var x y\nthread a\nstore x 1\nspawn b\nspawn c\njoin b\njoin c\nstore x 2\nthread b\nload r0 x\nstore y 1\nthread c\nload r0 x": false,
		"var x y\nthread a\nstore x 1\nspawn b\nspawn c\njoin b\nstore x 2\nthread b\nload r0 x\nstore y 1\nthread c\nload r0 x":         true,
	} {
		p, errno, line := code.Parse(text)
		if errno != api.OK {
			t.Fatalf("Parse(%q) = %d, line %d", text, errno, line)
		}
		total := 0
		for range 200 {
			schedule := make([]int, rnd.Intn(60))
			for i := range schedule {
				schedule[i] = rnd.Intn(3)
			}
			l, _ := run.Run(p, schedule)
			n, _ := agree(t, l)
			total += n
		}
		if (total > 0) != races {
			t.Errorf("%q: %d races", text, total)
		}
	}
}

// TestExampleOfTheWhole: example 1 of the document.
func TestExampleOfTheWhole(t *testing.T) {
	p, _, _ := code.Parse("var x\nthread a\nspawn b\nstore x 1\nthread b\nload r0 x")
	l, _ := run.Run(p, []int{0, 1, 0})
	if got := fast.First(l, 0); got != 2 {
		t.Errorf("H2: First is %d", got)
	}
}
