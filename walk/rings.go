package walk

import (
	"iter"
	"slices"

	"squeegee/num"
)

// back is the chain backwards; it is one class.
func (c *chain) back() [][]num.Rat {
	share := c.shares(0)
	var out [][]num.Rat
	for i := range c.chances {
		var row []num.Rat
		for j := range c.chances {
			row = append(row, quotient(product(share[j], c.chances[j][i]), share[i]))
		}
		out = append(out, row)
	}
	return out
}

// isBalanced reports whether the chain is the same backwards.
func (c *chain) isBalanced() bool {
	same := func(a, b num.Rat) bool { return a.Cmp(b) == 0 }
	return slices.EqualFunc(c.chances, c.back(), func(a, b []num.Rat) bool { return slices.EqualFunc(a, b, same) })
}

// rings gives lists of at least three different elements, the least one first: each ring in both directions, but those that go where no step leads in either direction. A list is kept as it is only until the next one.
func (c *chain) rings() iter.Seq[[]int] {
	return func(yield func([]int) bool) {
		var extend func(ring []int, rest group) bool
		extend = func(ring []int, rest group) bool {
			last := ring[len(ring)-1]
			if len(ring) >= 3 && !yield(ring) {
				return false
			}
			for i := range rest.elements() {
				if (c.next[last].has(i) || c.next[i].has(last)) && !extend(append(ring, i), rest&^only(i)) {
					return false
				}
			}
			return true
		}
		rest := below(len(c.chances))
		for first := range c.chances {
			rest &^= only(first)
			if !extend([]int{first}, rest) {
				return
			}
		}
	}
}

// around is the product of the chances from each element of a ring to the next one.
func (c *chain) around(ring []int) num.Rat {
	out := num.Of(1)
	last := ring[len(ring)-1]
	for _, i := range ring {
		out = product(out, c.chances[last][i])
		last = i
	}
	return out
}

// unevenRing is a ring that has not the same product in both directions. By Kolmogorov there is one if the chain is not balanced.
func (c *chain) unevenRing() []int {
	for ring := range c.rings() {
		opposite := slices.Clone(ring)
		slices.Reverse(opposite)
		if c.around(ring).Cmp(c.around(opposite)) != 0 {
			return ring
		}
	}
	return nil
}
