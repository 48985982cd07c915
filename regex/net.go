package regex

// net is an automaton that is in several states at once: it accepts what one of them accepts.
type net struct {
	starts, ends numbers
	next         [][letterCount][]int // for each state and letter the states after it
}

// newNet is a net of states without ways between them.
func newNet(size int) *net {
	return &net{noneBelow(size), noneBelow(size), make([][letterCount][]int, size)}
}

// put lays the table t from state offset on, and returns the set of its ends.
func (n *net) put(t table, offset int) numbers {
	ends := noneBelow(len(n.next))
	for q, row := range t.next {
		for i, to := range row {
			n.next[offset+q][i] = []int{offset + to}
		}
		if t.ends[q] {
			ends.add(offset + q)
		}
	}
	return ends
}

// link makes whatever leads to one of the states lead to state target, too.
func (n *net) link(states numbers, target int) {
	for q := range n.next {
		for i, after := range n.next[q] {
			if len(after) > 0 && states.has(after[0]) {
				n.next[q][i] = append(after, target)
			}
		}
	}
}

// wordNet is a net for one word.
func wordNet(word ...int) *net {
	n := newNet(len(word) + 1)
	for q, letter := range word {
		n.next[q][letter] = []int{q + 1}
	}
	n.starts.add(0)
	n.ends.add(len(word))
	return n
}

// plainNet is a net for the words of t.
func plainNet(t table) *net {
	n := newNet(len(t.ends))
	n.ends = n.put(t, 0)
	n.starts.add(0)
	return n
}

// unionNet is a net for the words of x and those of y.
func unionNet(x, y table) *net {
	second := len(x.ends)
	n := newNet(second + len(y.ends))
	n.ends = n.put(x, 0)
	n.ends.include(n.put(y, second))
	n.starts.add(0)
	n.starts.add(second)
	return n
}

// chainNet is a net for words of x followed by words of y.
func chainNet(x, y table) *net {
	second := len(x.ends)
	n := newNet(second + len(y.ends))
	between := n.put(x, 0)
	n.ends = n.put(y, second)
	n.link(between, second)
	n.starts.add(0)
	if x.ends[0] {
		n.starts.add(second)
	}
	return n
}

// starNet is a net for any number of words of x. It is in state 0 between any two of them.
func starNet(x table) *net {
	n := newNet(1 + len(x.ends))
	between := n.put(x, 1)
	n.link(between, 0)
	n.next[0] = n.next[1]
	n.starts.add(0)
	n.ends.add(0)
	return n
}

// after is the set of states to which the letter leads from those of s.
func (n *net) after(s numbers, letter int) numbers {
	out := noneBelow(len(n.next))
	for q := range s.all() {
		for _, to := range n.next[q][letter] {
			out.add(to)
		}
	}
	return out
}

// before is the set of states from which the letter leads to one of s.
func (n *net) before(s numbers, letter int) numbers {
	out := noneBelow(len(n.next))
	for q := range n.next {
		for _, to := range n.next[q][letter] {
			if s.has(to) {
				out.add(q)
			}
		}
	}
	return out
}
