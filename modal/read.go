package modal

import "strings"

const maxFormula = 60 // bytes

// begun is what is begun and not complete: its first sign and what stands on the left of it, or just a bracket.
type begun struct {
	sign rune
	left node
}

// reader reads a formula character by character.
type reader struct {
	open []begun
	last node // the formula that is complete and of which nothing is made yet, or nil
}

// read returns a formula, or false if f is none.
func read(f string) (node, bool) {
	if len(f) > maxFormula {
		return nil, false
	}
	r := &reader{}
	for _, c := range f {
		if !r.take(c) {
			return nil, false
		}
	}
	return r.last, r.last != nil && len(r.open) == 0
}

// take reads a character, or returns false if it cannot stand there.
func (r *reader) take(c rune) bool {
	if r.last == nil {
		return r.begin(c)
	}
	return r.goOn(c)
}

// begin reads the first character of a formula.
func (r *reader) begin(c rune) bool {
	switch c {
	case 'p', 'q', 'r', '0':
		r.complete(leaf{c})
	case '!', '#', '*', '(':
		r.open = append(r.open, begun{sign: c})
	default:
		return false
	}
	return true
}

// goOn reads a character after a formula that is the left or the right one of two.
func (r *reader) goOn(c rune) bool {
	if len(r.open) == 0 {
		return false
	}
	top := r.open[len(r.open)-1]
	right := r.last
	switch c {
	case '&', '|', '>':
		if top.sign != '(' {
			return false
		}
		r.open[len(r.open)-1] = begun{c, right}
		r.last = nil
	case ')':
		if top.sign == '(' {
			return false
		}
		r.open = r.open[:len(r.open)-1]
		r.complete(pair{kindOf(top.sign), top.left, right})
	default:
		return false
	}
	return true
}

// complete makes one formula of n and the signs before it that are waiting for just one.
func (r *reader) complete(n node) {
	for len(r.open) > 0 {
		sign := r.open[len(r.open)-1].sign
		if sign == '!' {
			n = not{n}
		} else if sign == '#' || sign == '*' {
			n = elsewhere{kindOf(sign), n}
		} else {
			break
		}
		r.open = r.open[:len(r.open)-1]
	}
	r.last = n
}

func kindOf(sign rune) kind {
	return kind(strings.IndexRune(signs, sign))
}
