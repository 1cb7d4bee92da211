package clock_test

import (
	"math"
	"slices"
	"testing"

	"weave/clock"
)

const (
	greatest = math.MaxInt
	least    = math.MinInt
)

func zeros(n int) []int { return make([]int, n) }

// answered asks for a vector as it is answered: no 0 at its end, and nil, if it is without numbers.
func answered(t *testing.T, what string, got, want []int) {
	t.Helper()
	if !slices.Equal(got, want) || len(got) == 0 && got != nil {
		t.Errorf("E2: %s = %v, want %v", what, got, want)
	}
}

func TestAt(t *testing.T) {
	v := []int{7, -8, 0, greatest, least, 0}
	for at, want := range v {
		if got := clock.At(v, at); got != want {
			t.Errorf("E1: At(%d) = %d, want %d", at, got, want)
		}
	}
	for _, at := range []int{-1, -2, 6, 7, 1000, 1001, greatest, least} {
		if got := clock.At(v, at); got != 0 {
			t.Errorf("E1: At(%d) = %d", at, got)
		}
		if clock.At(nil, at) != 0 || clock.At([]int{}, at) != 0 {
			t.Errorf("E1: At(%d), of no numbers", at)
		}
	}
	long := zeros(2000)
	long[1000], long[1001], long[1999] = 1, 2, 3
	if clock.At(long, 1000) != 1 || clock.At(long, 1001) != 2 || clock.At(long, 1999) != 3 || clock.At(long, 2000) != 0 {
		t.Error("E1: At, of a long vector")
	}
}

func TestSame(t *testing.T) {
	for _, c := range []struct {
		a, b []int
		want bool
	}{
		{nil, nil, true}, {nil, []int{}, true}, {nil, []int{0}, true}, {nil, zeros(1500), true}, {[]int{1}, []int{1, 0, 0}, true},
		{[]int{1, 2}, []int{1, 2}, true}, {[]int{0, 1}, []int{0, 1, 0}, true}, {[]int{greatest, least}, []int{greatest, least}, true}, {[]int{-3}, []int{-3, 0}, true},
		{nil, []int{1}, false}, {nil, []int{-1}, false}, {nil, []int{0, 0, 1}, false}, {[]int{1}, []int{0, 1}, false}, {[]int{1}, []int{1, 1}, false},
		{[]int{1, 2}, []int{2, 1}, false}, {[]int{1, 2}, []int{1, 3}, false}, {[]int{2, 2}, []int{1, 2}, false}, {[]int{greatest}, []int{least}, false},
		{zeros(1500), append(zeros(1499), 1), false}, {[]int{1}, []int{-1}, false},
	} {
		if clock.Same(c.a, c.b) != c.want || clock.Same(c.b, c.a) != c.want {
			t.Errorf("E1: Same(%v, %v) is not %v", c.a, c.b, c.want)
		}
	}
}

func TestLeq(t *testing.T) {
	for _, c := range []struct {
		a, b       []int
		leq, other bool // and the other way round
	}{
		{nil, nil, true, true}, {nil, []int{}, true, true}, {nil, zeros(1500), true, true}, {[]int{1}, []int{1, 0}, true, true}, {[]int{4, 5}, []int{4, 5}, true, true},
		{nil, []int{0, 1}, true, false}, {[]int{1}, []int{2}, true, false}, {[]int{1}, []int{1, 3}, true, false}, {[]int{0, 1}, []int{1, 1}, true, false},
		{[]int{1, 1}, []int{1, 2, 0}, true, false}, {[]int{-1}, nil, true, false}, {[]int{0, -1}, []int{0}, true, false}, {[]int{-2}, []int{-1, 0, 0}, true, false},
		{[]int{1}, []int{0, 1}, false, false}, {[]int{1, 2}, []int{2, 1}, false, false}, {[]int{-1}, []int{0, -1}, false, false}, {[]int{1}, []int{0, 0, 0, 1}, false, false},
		{[]int{least}, []int{greatest}, true, false}, {[]int{least}, nil, true, false}, {nil, []int{greatest}, true, false}, {[]int{greatest - 1}, []int{greatest}, true, false},
		{append(zeros(1500), -1), nil, true, false}, {nil, append(zeros(1500), 1), true, false}, {[]int{1, 0, 0}, append(zeros(1500), 1), false, false},
	} {
		if clock.Leq(c.a, c.b) != c.leq {
			t.Errorf("E1: Leq(%v, %v) is not %v", c.a, c.b, c.leq)
		}
		if clock.Leq(c.b, c.a) != c.other {
			t.Errorf("E1: Leq(%v, %v) is not %v", c.b, c.a, c.other)
		}
	}
}

func TestMax(t *testing.T) {
	for _, c := range []struct{ a, b, want []int }{
		{nil, nil, nil}, {nil, []int{}, nil}, {zeros(3), zeros(1), nil}, {nil, []int{1, 0}, []int{1}}, {[]int{1, 2}, []int{2, 1}, []int{2, 2}},
		{[]int{1, 0, 2}, []int{0, 3}, []int{1, 3, 2}}, {[]int{1}, []int{0, 0, 0, 1}, []int{1, 0, 0, 1}}, {[]int{5, 0, 0}, []int{4, 0}, []int{5}},
		{[]int{-1}, nil, nil}, {[]int{-1}, []int{-2}, []int{-1}}, {[]int{-1}, []int{0, -2}, nil}, {[]int{-1, -5}, []int{-2, -4}, []int{-1, -4}},
		{[]int{-1, 1}, []int{-3}, []int{-1, 1}}, {[]int{3, -1}, []int{1}, []int{3}}, {[]int{-3, 0}, []int{-4, 0}, []int{-3}},
		{[]int{greatest, least}, []int{least, greatest}, []int{greatest, greatest}}, {[]int{least, least}, []int{least, least}, []int{least, least}}, {[]int{least}, nil, nil},
		{append(zeros(1500), 1), []int{2}, append(append([]int{2}, zeros(1499)...), 1)}, {append(zeros(1500), -1), []int{2}, []int{2}},
	} {
		answered(t, "Max", clock.Max(c.a, c.b), c.want)
		answered(t, "Max, the other way round", clock.Max(c.b, c.a), c.want)
	}
}

func TestTick(t *testing.T) {
	long := append(zeros(1500), 1)
	longTicked := slices.Clone(long)
	longTicked[1000] = 1
	for _, c := range []struct {
		v    []int
		t    int
		want []int
	}{
		{nil, 0, []int{1}}, {[]int{}, 0, []int{1}}, {nil, 2, []int{0, 0, 1}}, {[]int{1}, 0, []int{2}}, {[]int{1}, 1, []int{1, 1}}, {[]int{1}, 2, []int{1, 0, 1}},
		{[]int{1, 2, 3}, 1, []int{1, 3, 3}}, {[]int{1, 0, 0, 0}, 1, []int{1, 1}}, {[]int{1, 0, 0, 0}, 2, []int{1, 0, 1}}, {[]int{-5}, 0, []int{-4}},
		{[]int{-1}, 0, nil}, {[]int{2, -1}, 1, []int{2}}, {[]int{0, 0, -1}, 2, nil}, {[]int{3, -1, 4}, 1, []int{3, 0, 4}},
		{[]int{greatest}, 0, []int{least}}, {[]int{1, greatest}, 1, []int{1, least}}, {[]int{least}, 0, []int{least + 1}}, {[]int{greatest - 1}, 0, []int{greatest}},
		{[]int{1, 2}, -1, []int{1, 2}}, {[]int{1, 0, 0}, -1, []int{1}}, {zeros(3), -1, nil}, {nil, -1, nil}, {[]int{1}, least, []int{1}},
		{nil, 1000, append(zeros(1000), 1)}, {[]int{0}, 999, append(zeros(999), 1)}, {nil, 1001, nil}, {[]int{1, 0}, 1001, []int{1}}, {[]int{1}, greatest, []int{1}},
		{long, 1000, longTicked}, {long, 1001, long}, {long, 1500, long}, {append(slices.Clone(long), 0, 0), 1500, long},
	} {
		answered(t, "Tick", clock.Tick(c.v, c.t), c.want)
	}
}

// vectors is all with up to three numbers out of few, zeros at their ends, too.
func vectors(numbers ...int) [][]int {
	all := [][]int{nil}
	for from := 0; len(all[from]) < 3; from++ {
		for _, n := range numbers {
			all = append(all, append(slices.Clone(all[from]), n))
		}
	}
	return all
}

// TestAgainstReference looks at all places up to beyond both ends.
func TestAgainstReference(t *testing.T) {
	at := func(v []int, n int) int {
		if n < len(v) {
			return v[n]
		}
		return 0
	}
	all := vectors(least, -1, 0, 1, greatest)
	for _, a := range all {
		for _, b := range all {
			leq, same, higher := true, true, []int(nil)
			for n := range 5 {
				x, y := at(a, n), at(b, n)
				leq, same = leq && x <= y, same && x == y
				higher = append(higher, max(x, y))
			}
			for len(higher) > 0 && higher[len(higher)-1] == 0 {
				higher = higher[:len(higher)-1]
			}
			if clock.Leq(a, b) != leq || clock.Same(a, b) != same {
				t.Errorf("E1: Leq(%v, %v) is not %v, or Same not %v", a, b, leq, same)
			}
			answered(t, "Max", clock.Max(a, b), higher)
		}
		for n := range 5 {
			ticked := clock.Tick(a, n)
			for k := range 6 {
				want := at(a, k)
				if k == n {
					want++
				}
				if clock.At(ticked, k) != want {
					t.Errorf("E2: Tick(%v, %d) = %v", a, n, ticked)
				}
			}
			if l := len(ticked); l > 0 && ticked[l-1] == 0 || l == 0 && ticked != nil {
				t.Errorf("E2: Tick(%v, %d) = %v", a, n, ticked)
			}
		}
	}
}

func TestOrderOfVectors(t *testing.T) {
	all := vectors(-1, 0, 2)
	for _, a := range all {
		if !clock.Leq(a, a) || !clock.Same(a, a) {
			t.Errorf("E3: %v is not below or at itself", a)
		}
		if slices.IndexFunc(a, func(n int) bool { return n < 0 }) < 0 && !clock.Leq(nil, a) {
			t.Errorf("E3: the vector without numbers is not below %v", a)
		}
		for _, b := range all {
			if (clock.Leq(a, b) && clock.Leq(b, a)) != clock.Same(a, b) {
				t.Errorf("E3: %v and %v are below each other, and not the same, or the other way round", a, b)
			}
			higher := clock.Max(a, b)
			if !clock.Leq(a, higher) || !clock.Leq(b, higher) {
				t.Errorf("E3: Max(%v, %v) = %v is below one of them", a, b, higher)
			}
			if clock.Leq(a, b) != clock.Same(higher, b) {
				t.Errorf("E3: Max(%v, %v) = %v", a, b, higher)
			}
			for _, c := range all {
				if clock.Leq(a, b) && clock.Leq(b, c) && !clock.Leq(a, c) {
					t.Errorf("E3: %v, %v and %v rise, but the first is not below the last", a, b, c)
				}
				if clock.Leq(a, c) && clock.Leq(b, c) && !clock.Leq(higher, c) {
					t.Errorf("E3: %v is not below Max(%v, %v) alone", c, a, b)
				}
			}
		}
	}
}

// TestVectorsAreNeitherChangedNorShared hands in vectors with room behind their ends, and writes all over what is answered.
func TestVectorsAreNeitherChangedNorShared(t *testing.T) {
	room := func(v ...int) []int { return append(make([]int, 0, 8), v...) }
	spoil := func(v []int) {
		v = v[:cap(v)]
		for i := range v {
			v[i] = 77
		}
	}
	for what, call := range map[string]func(a, b []int) []int{
		"Max":           clock.Max,
		"Max of one":    func(a, b []int) []int { return clock.Max(a, nil) },
		"Max of equals": func(a, b []int) []int { return clock.Max(b, b) },
		"Tick":          func(a, b []int) []int { return clock.Tick(a, 1) },
		"Tick behind":   func(a, b []int) []int { return clock.Tick(a, 4) },
		"Tick of none":  func(a, b []int) []int { return clock.Tick(b, 1001) },
		"Tick below 0":  func(a, b []int) []int { return clock.Tick(a, -1) },
	} {
		a, b := room(1, 2, 0), room(0, 3, 4, 0)
		first, second := call(a, b), call(a, b)
		clock.Leq(a, b)
		clock.Same(a, b)
		clock.At(a, 1)
		if !slices.Equal(a[:8], []int{1, 2, 0, 0, 0, 0, 0, 0}) || !slices.Equal(b[:8], []int{0, 3, 4, 0, 0, 0, 0, 0}) {
			t.Errorf("G4: %s changes what it is handed: %v, %v", what, a[:8], b[:8])
		}
		want := slices.Clone(first)
		spoil(a)
		spoil(b)
		if !slices.Equal(first, want) {
			t.Errorf("G4: %s: a change of what is handed in is seen: %v, not %v", what, first, want)
		}
		spoil(first)
		if !slices.Equal(second, want) {
			t.Errorf("G4: %s: two answers share memory: %v, not %v", what, second, want)
		}
	}
	a, b := room(1, 2, 0), room(0, 3, 4, 0)
	spoil(clock.Max(a, b))
	spoil(clock.Tick(a, 0))
	spoil(clock.Tick(b, 1001))
	if !slices.Equal(a[:8], []int{1, 2, 0, 0, 0, 0, 0, 0}) || !slices.Equal(b[:8], []int{0, 3, 4, 0, 0, 0, 0, 0}) {
		t.Errorf("G4: an answer is what was handed in: %v, %v", a[:8], b[:8])
	}
}
