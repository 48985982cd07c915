package regex

// node is an expression. Its parts are nodes of the same forest, written as their numbers there.
type node interface {
	parts() parts
}

// parts is what a node is made of: nodes of the same parts are equal.
type parts struct {
	sign        byte
	left, right int
}

type (
	letter struct{ index int }       // a word of one letter
	none   struct{}                  // no word
	empty  struct{}                  // the empty word
	not    struct{ of int }          // the words that are not in it
	star   struct{ of int }          // any number of words in it
	chain  struct{ left, right int } // words in left, followed by words in right
	both   struct{ left, right int } // the words in both
	either struct{ left, right int } // the words in left or in right
)

func (n letter) parts() parts { return parts{sign: alphabet[n.index]} }
func (n none) parts() parts   { return parts{sign: '0'} }
func (n empty) parts() parts  { return parts{sign: '1'} }
func (n not) parts() parts    { return parts{sign: '!', left: n.of} }
func (n star) parts() parts   { return parts{sign: '*', left: n.of} }
func (n chain) parts() parts  { return parts{'.', n.left, n.right} }
func (n both) parts() parts   { return parts{'&', n.left, n.right} }
func (n either) parts() parts { return parts{'|', n.left, n.right} }

// forest contains nodes, each of them once and after its parts.
type forest struct {
	nodes   []node
	numbers map[parts]int
}

// number is the number of the node n, which is planted if it is new.
func (f *forest) number(n node) int {
	i, found := f.numbers[n.parts()]
	if !found {
		i = len(f.nodes)
		f.nodes = append(f.nodes, n)
		f.numbers[n.parts()] = i
	}
	return i
}

// joined puts one or more nodes together from the left on: the first two, then these and the third one, and so on.
func (f *forest) joined(pair func(left, right int) node, list ...int) int {
	out := list[0]
	for _, i := range list[1:] {
		out = f.number(pair(out, i))
	}
	return out
}

// tables returns the tables of all nodes, or false if one of them has more than maxStates states.
func (f *forest) tables() ([]table, bool) {
	var out []table
	for _, n := range f.nodes {
		t, ok := tableOf(n, out)
		if !ok {
			return nil, false
		}
		out = append(out, t)
	}
	return out, true
}

// tableOf is the table of a node, made of those of the nodes before it, or false if it is too large.
func tableOf(n node, before []table) (table, bool) {
	switch n := n.(type) {
	case letter:
		return wordNet(n.index).minimal()
	case none:
		return newNet(1).minimal()
	case empty:
		return wordNet().minimal()
	case not:
		return before[n.of].flipped(), true
	case star:
		return starNet(before[n.of]).minimal()
	case chain:
		return chainNet(before[n.left], before[n.right]).minimal()
	case either:
		return unionNet(before[n.left], before[n.right]).minimal()
	case both:
		outside, ok := unionNet(before[n.left].flipped(), before[n.right].flipped()).minimal()
		return outside.flipped(), ok
	}
	return table{}, false
}
