package modal

// kind is a kind of formulas that are made of others.
type kind int

// The kinds in a row: of the first four, `!` makes the two of a pair of each other.
const (
	necessarily kind = iota // #F
	possibly                // *F
	both                    // (F&G)
	either                  // (F|G)
	implies                 // (F>G)
)

const (
	signs = "#*&|>" // of the kinds
	atoms = "pqr"
)

func (k kind) sign() string {
	return signs[k : k+1]
}

// unless is k if that is wanted, otherwise what `!` makes of it.
func (k kind) unless(wanted bool) kind {
	if wanted {
		return k
	}
	return k ^ 1
}

// joins tells what two formulas with that sign between them are, if they are true or not.
func (k kind) joins(left, right bool) bool {
	switch k {
	case both:
		return left && right
	case either:
		return left || right
	}
	return !left || right
}

// node is a formula.
type node interface {
	text() string
	depth() int
}

type (
	leaf      struct{ sign rune } // an atom, or 0
	not       struct{ of node }
	elsewhere struct {
		kind kind
		of   node
	}
	pair struct {
		kind        kind
		left, right node
	}
)

func (n leaf) text() string      { return string(n.sign) }
func (n not) text() string       { return "!" + n.of.text() }
func (n elsewhere) text() string { return n.kind.sign() + n.of.text() }
func (n pair) text() string      { return "(" + n.left.text() + n.kind.sign() + n.right.text() + ")" }

func (n leaf) depth() int      { return 0 }
func (n not) depth() int       { return n.of.depth() }
func (n elsewhere) depth() int { return 1 + n.of.depth() }
func (n pair) depth() int      { return max(n.left.depth(), n.right.depth()) }

// normal is the normal form of n if that is wanted, otherwise the one of `!` with it.
func normal(n node, wanted bool) node {
	switch n := n.(type) {
	case not:
		return normal(n.of, !wanted)
	case elsewhere:
		return elsewhere{n.kind.unless(wanted), normal(n.of, wanted)}
	case pair:
		if n.kind == implies {
			return normal(pair{either, not{n.left}, n.right}, wanted)
		}
		return pair{n.kind.unless(wanted), normal(n.left, wanted), normal(n.right, wanted)}
	}
	if wanted {
		return n
	}
	return not{n}
}
