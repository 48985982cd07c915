package modal

import (
	"iter"
	"math/bits"
)

// set is a set of formulas of a stock, by their numbers.
type set uint64

func only(i int) set {
	return 1 << i
}

// first is the least number in a set that is not empty.
func (s set) first() int {
	return bits.TrailingZeros64(uint64(s))
}

// all yields the numbers in a set.
func (s set) all() iter.Seq[int] {
	return func(yield func(int) bool) {
		for rest := s; rest != 0; rest &= rest - 1 {
			if !yield(rest.first()) {
				return
			}
		}
	}
}

// entry is a formula with the numbers of its parts: left is that of the only one, too.
type entry struct {
	node        node
	left, right int
}

// stock contains a formula in normal form and its parts, each of them once and after its own parts. They fit into a set, since each of them stands for a character of its own in the formula that was read.
type stock struct {
	entries []entry
	numbers map[string]int // by their texts
	kinds   [implies]set   // the formulas of each kind
	clashes []set          // formulas that cannot all be true: 0, or an atom and ! with it
}

// newStock has the normal form of n if that is wanted, otherwise the one of ! with it; its number is returned, too.
func newStock(n node, wanted bool) (*stock, int) {
	s := &stock{numbers: map[string]int{}}
	root := s.number(normal(n, wanted))
	for i, e := range s.entries {
		text := e.node.text()
		if j, found := s.numbers["!"+text]; found {
			s.clashes = append(s.clashes, only(i)|only(j))
		}
		if text == "0" {
			s.clashes = append(s.clashes, only(i))
		}
	}
	return s, root
}

// number is the number of n, which is put into the stock if it is new.
func (s *stock) number(n node) int {
	text := n.text()
	if i, found := s.numbers[text]; found {
		return i
	}
	e := entry{node: n}
	switch n := n.(type) {
	case elsewhere:
		e.left = s.number(n.of)
		s.kinds[n.kind] |= only(len(s.entries))
	case pair:
		e.left = s.number(n.left)
		e.right = s.number(n.right)
		s.kinds[n.kind] |= only(len(s.entries))
	}
	i := len(s.entries)
	s.entries = append(s.entries, e)
	s.numbers[text] = i
	return i
}

// isClosed reports whether formulas contain 0, or an atom and ! with it.
func (s *stock) isClosed(formulas set) bool {
	for _, c := range s.clashes {
		if formulas&c == c {
			return true
		}
	}
	return false
}
