package shop

import (
	"slices"

	"squeegee/api"
	"squeegee/cups"
	"squeegee/leon"
	"squeegee/modal"
	"squeegee/num"
	"squeegee/regex"
	"squeegee/slide"
	"squeegee/walk"
)

const (
	maxFormulas = 20
	maxPoints   = 14
)

// areBelow reports whether numbers are from 0 to one less than n.
func areBelow(n int, numbers ...int) bool {
	for _, i := range numbers {
		if i < 0 || i >= n {
			return false
		}
	}
	return true
}

// order replaces the expression.
func (s *Shop) order(g given) api.Errno {
	if e := regex.Check(g.words[0]); e != api.OK {
		return e
	}
	s.expression = g.words[0]
	return api.OK
}

// promise adds a formula.
func (s *Shop) promise(g given) api.Errno {
	name, formula := g.words[0], g.words[1]
	if _, has := s.formulas[name]; has {
		return api.ErrState
	}
	if len(s.formulas) >= maxFormulas {
		return api.ErrFull
	}
	if e := modal.Check(formula); e != api.OK {
		return e
	}
	s.formulas[name] = formula
	return api.OK
}

// drop removes a formula.
func (s *Shop) drop(g given) api.Errno {
	if _, has := s.formulas[g.words[0]]; !has {
		return api.ErrNone
	}
	delete(s.formulas, g.words[0])
	return api.OK
}

// fractions reads fractions, up to the first one that has an error.
func fractions(words ...string) ([]num.Rat, api.Errno) {
	var out []num.Rat
	for _, word := range words {
		r, e := num.Parse(word)
		if e != api.OK {
			return nil, e
		}
		out = append(out, r)
	}
	return out, api.OK
}

// chance replaces a row of the chain.
func (s *Shop) chance(g given) api.Errno {
	from := g.numbers[0]
	if !areBelow(windows, from) {
		return api.ErrArg
	}
	row, e := fractions(g.words...)
	if e != api.OK {
		return e
	}
	changed := copied(s.chances)
	changed[from] = row
	if walk.Check(changed) != api.OK {
		return api.ErrChain
	}
	s.chances = changed
	return api.OK
}

// use replaces an element of the table.
func (s *Shop) use(g given) api.Errno {
	if !areBelow(firms, g.numbers...) {
		return api.ErrArg
	}
	amount, e := num.Parse(g.words[0])
	if e != api.OK {
		return e
	}
	changed := copied(s.uses)
	changed[g.numbers[0]][g.numbers[1]] = amount
	if leon.Check(changed) != api.OK {
		return api.ErrTable
	}
	s.uses = changed
	return api.OK
}

// offer replaces what a bidder offers for an item.
func (s *Shop) offer(g given) api.Errno {
	bidder, item, amount := g.numbers[0], g.numbers[1], g.numbers[2]
	if !areBelow(bidders, bidder) || !areBelow(items, item) || amount < 0 {
		return api.ErrArg
	}
	s.offers[bidder][item] = int64(amount)
	return api.OK
}

// window adds a point.
func (s *Shop) window(g given) api.Errno {
	if len(s.points) >= maxPoints {
		return api.ErrArg
	}
	changed := slices.Concat(s.points, [][2]int{[2]int(g.numbers)})
	if cups.Check(changed) != api.OK {
		return api.ErrPoint
	}
	s.points = changed
	return api.OK
}

// board is the board: its places and its edges.
func board() (int, [][2]int) {
	n, edges, _ := slide.Grid(2, 3)
	return n, edges
}

// move moves the hole.
func (s *Shop) move(g given) api.Errno {
	n, edges := board()
	if !areBelow(n, g.numbers...) {
		return api.ErrArg
	}
	then, done, e := slide.Apply(n, edges, s.position, g.numbers)
	if e != api.OK {
		return e
	}
	if done == 0 {
		return api.ErrNone
	}
	s.position = then
	return api.OK
}
