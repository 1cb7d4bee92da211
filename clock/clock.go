// Package clock works with vectors of numbers: see doc/04-clock.md.
package clock

import (
	"iter"
	"slices"
)

// highest is the last place that Tick makes higher: a vector does not grow beyond it.
const highest = 1000

// At tells a vector's number (E1).
func At(v []int, t int) int {
	if t < 0 || t >= len(v) {
		return 0
	}
	return v[t]
}

// Max is the higher one of each (E2).
func Max(a []int, b []int) []int {
	var higher []int
	for x, y := range beside(a, b) {
		higher = append(higher, max(x, y))
	}
	return trimmed(higher)
}

// Leq tells whether a vector is nowhere above another one (E1).
func Leq(a []int, b []int) bool {
	for x, y := range beside(a, b) {
		if x > y {
			return false
		}
	}
	return true
}

// Tick makes a number one higher (E2).
func Tick(v []int, t int) []int {
	next := slices.Clone(v)
	if t >= 0 && t <= highest {
		next = reaching(next, t)
		next[t]++
	}
	return trimmed(next)
}

// Same tells whether two vectors are the same (E1).
func Same(a []int, b []int) bool {
	for x, y := range beside(a, b) {
		if x != y {
			return false
		}
	}
	return true
}

// beside ranges over two vectors side by side, up to the end of the longer one: behind it both are 0 for ever.
func beside(a, b []int) iter.Seq2[int, int] {
	return func(yield func(int, int) bool) {
		for t := range max(len(a), len(b)) {
			if !yield(At(a, t), At(b, t)) {
				return
			}
		}
	}
}

// reaching writes out as many of the zeros behind a vector's end as it takes to have a number of t.
func reaching(v []int, t int) []int {
	if t < len(v) {
		return v
	}
	return append(v, make([]int, t+1-len(v))...)
}

// trimmed leaves away the zeros at a vector's end, so that there is one way alone to write it.
func trimmed(v []int) []int {
	end := len(v)
	for end > 0 && v[end-1] == 0 {
		end--
	}
	if end == 0 {
		return nil
	}
	return v[:end]
}
