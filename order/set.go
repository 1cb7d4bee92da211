package order

import (
	"iter"
	"math/bits"
)

// set is a set of events: the bit n, counted from the first word's lowest one on, says whether event n is in it.
type set []uint64

const wordBits = 64

func (s set) has(n int) bool {
	k := n / wordBits
	return k < len(s) && s[k]>>(n%wordBits)&1 == 1
}

// with and join write into the set's own memory where it is long enough, like append: only what they answer goes on
// being the set. None of it is ever the other set's.
func (s set) with(n int) set {
	k := n / wordBits
	s = s.words(k + 1)
	s[k] |= 1 << (n % wordBits)
	return s
}

func (s set) join(o set) set {
	s = s.words(len(o))
	for k, w := range o {
		s[k] |= w
	}
	return s
}

// words makes a set at least that many words long.
func (s set) words(n int) set {
	if n <= len(s) {
		return s
	}
	return append(s, make(set, n-len(s))...)
}

// without ranges over the events that are not in another set, too, rising.
func (s set) without(o set) iter.Seq[int] {
	return func(yield func(int) bool) {
		for k, w := range s {
			if k < len(o) {
				w &^= o[k]
			}
			for ; w != 0; w &= w - 1 {
				if !yield(k*wordBits + bits.TrailingZeros64(w)) {
					return
				}
			}
		}
	}
}
