// Package stamp counts events by their threads, of which there may be any number, with any numbers: what chapters 5 and 6
// share.
package stamp

import (
	"maps"

	"weave/clock"
)

// Stamp holds a number for each thread, as pages: vectors of chapter 4, each for Page threads side by side. So it takes
// up little room where few of many threads have one, and no thread is too high for clock.Tick. Stamps share pages, and
// are shared: only Put changes one.
type Stamp map[int][]int

// Page is how many threads share a page.
const Page = 64

// place is where a thread's number stands, below 0, too: the page, and where on it.
func place(thread int) (page, at int) {
	at = thread & (Page - 1)
	return (thread - at) / Page, at
}

// Of is a thread's number.
func (s Stamp) Of(thread int) int {
	page, at := place(thread)
	return clock.At(s[page], at)
}

// Vector is the numbers of the threads from 0 to Page less 1, in memory of its own.
func (s Stamp) Vector() []int {
	return clock.Max(s[0], nil)
}

// Leq tells whether no thread's number is above that of another stamp.
func (s Stamp) Leq(o Stamp) bool {
	for page, v := range s {
		if !clock.Leq(v, o[page]) {
			return false
		}
	}
	return true
}

// Join is the higher one of each thread's numbers. It is one of the two, if that is enough: most often one event knows
// all that the other one does.
func (s Stamp) Join(o Stamp) Stamp {
	if o.Leq(s) {
		return s
	}
	if s.Leq(o) {
		return o
	}
	both := maps.Clone(s)
	both.add(o)
	return both
}

// add joins another stamp into this one, which nobody else may hold.
func (s Stamp) add(o Stamp) {
	for page, v := range o {
		s[page] = higher(s[page], v)
	}
}

// Put sets a thread's number in the stamp itself, which must be one that was filled by Put alone: others share it.
func (s Stamp) Put(thread int, number int) {
	page, at := place(thread)
	v := s[page]
	if at >= len(v) {
		v = append(v, make([]int, at+1-len(v))...)
	}
	v[at] = number
	s[page] = v
}

// Tick is the stamp with one thread's number one higher.
func (s Stamp) Tick(thread int) Stamp {
	page, at := place(thread)
	next := Stamp{}
	maps.Copy(next, s)
	next[page] = clock.Tick(s[page], at)
	return next
}

// higher is clock.Max, but for new memory where one of the two is enough.
func higher(a, b []int) []int {
	if clock.Leq(b, a) {
		return a
	}
	if clock.Leq(a, b) {
		return b
	}
	return clock.Max(a, b)
}
