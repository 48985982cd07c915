package regex

import (
	"strings"

	"squeegee/api"
)

const (
	maxExpression = 200 // bytes
	maxLevels     = 30
	maxWord       = 100 // letters
)

// isWord reports whether s is a word that is not too long.
func isWord(s string) bool {
	if len(s) > maxWord {
		return false
	}
	for _, c := range s {
		if !strings.ContainsRune(alphabet, c) {
			return false
		}
	}
	return true
}

// read plants the nodes of some expressions and returns the forest and the number of each expression, or ErrRegex.
func read(expressions ...string) (*forest, []int, api.Errno) {
	f := &forest{numbers: map[parts]int{}}
	var roots []int
	for _, s := range expressions {
		if len(s) > maxExpression {
			return nil, nil, api.ErrRegex
		}
		p := &parser{forest: f, rest: s}
		root, ok := p.expression()
		if !ok || p.rest != "" {
			return nil, nil, api.ErrRegex
		}
		roots = append(roots, root)
	}
	return f, roots, api.OK
}

// parser reads an expression. Its methods return the number of the node that they have read, or false.
type parser struct {
	forest *forest
	rest   string // what is not read yet
	level  int
}

// skip reads the sign, if it comes next.
func (p *parser) skip(sign string) bool {
	rest, found := strings.CutPrefix(p.rest, sign)
	p.rest = rest
	return found
}

// list reads parts with a sign between any two.
func (p *parser) list(sign string, part func() (int, bool)) ([]int, bool) {
	var out []int
	for {
		i, ok := part()
		if !ok {
			return nil, false
		}
		out = append(out, i)
		if !p.skip(sign) {
			return out, true
		}
	}
}

func (p *parser) expression() (int, bool) {
	alternatives, ok := p.list("|", p.alternative)
	if !ok {
		return 0, false
	}
	return p.forest.joined(func(l, r int) node { return either{l, r} }, alternatives...), true
}

func (p *parser) alternative() (int, bool) {
	meets, ok := p.list("&", p.meet)
	if !ok {
		return 0, false
	}
	return p.forest.joined(func(l, r int) node { return both{l, r} }, meets...), true
}

func (p *parser) meet() (int, bool) {
	var items []int
	for {
		i, ok := p.item()
		if !ok {
			return 0, false
		}
		items = append(items, i)
		if p.rest == "" || strings.Contains("|&)", p.rest[:1]) {
			return p.forest.joined(func(l, r int) node { return chain{l, r} }, items...), true
		}
	}
}

func (p *parser) item() (int, bool) {
	i, ok := p.atom()
	for ok && p.skip("*") {
		i = p.forest.number(star{i})
	}
	return i, ok
}

func (p *parser) atom() (int, bool) {
	for i, letterSign := range letters {
		if p.skip(letterSign) {
			return p.forest.number(letter{i}), true
		}
	}
	switch {
	case p.skip("0"):
		return p.forest.number(none{}), true
	case p.skip("1"):
		return p.forest.number(empty{}), true
	case p.skip("!"):
		return p.inside(p.complement)
	case p.skip("("):
		return p.inside(p.bracket)
	}
	return 0, false
}

// inside reads what is one level deeper.
func (p *parser) inside(part func() (int, bool)) (int, bool) {
	if p.level == maxLevels {
		return 0, false
	}
	p.level++
	i, ok := part()
	p.level--
	return i, ok
}

func (p *parser) complement() (int, bool) {
	i, ok := p.atom()
	if !ok {
		return 0, false
	}
	return p.forest.number(not{i}), true
}

func (p *parser) bracket() (int, bool) {
	i, ok := p.expression()
	return i, ok && p.skip(")")
}
