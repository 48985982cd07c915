package walk

import (
	"iter"
	"math/bits"
)

// group is a set of elements, as bits.
type group uint8

func only(i int) group {
	return 1 << i
}

// below is the set of the elements below n. For 8 the wraparound is right.
func below(n int) group {
	return 1<<n - 1
}

func (g group) has(i int) bool {
	return g>>i&1 == 1
}

// least is the least element; there is one.
func (g group) least() int {
	return bits.TrailingZeros8(uint8(g))
}

// elements gives the elements, rising.
func (g group) elements() iter.Seq[int] {
	return func(yield func(int) bool) {
		for rest := g; rest != 0; rest &= rest - 1 {
			if !yield(rest.least()) {
				return
			}
		}
	}
}
