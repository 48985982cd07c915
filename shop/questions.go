package shop

import (
	"math/bits"
	"strconv"

	"squeegee/api"
	"squeegee/bid"
	"squeegee/cups"
	"squeegee/leon"
	"squeegee/modal"
	"squeegee/num"
	"squeegee/regex"
	"squeegee/slide"
	"squeegee/walk"
)

// nothing stands for the empty word, and for no item.
const nothing = "-"

// answers writes each element of a list.
func answers[T any](list []T, write func(T) string) []string {
	var out []string
	for _, x := range list {
		out = append(out, write(x))
	}
	return out
}

// yesOrNo writes whether something is so.
func yesOrNo(is bool) string {
	if is {
		return "yes"
	}
	return "no"
}

// has tells whether a word is in the language of the expression.
func (s *Shop) has(g given) (string, api.Errno) {
	word := g.words[0]
	if word == nothing {
		word = ""
	}
	is, e := regex.Has(s.expression, word)
	return say("has", yesOrNo(is)), e
}

// states tells the number of states of the expression.
func (s *Shop) states(given) (string, api.Errno) {
	ends, _, e := regex.States(s.expression)
	return say("states", strconv.Itoa(len(ends))), e
}

// keep tells whether a formula is true always, sometimes or never.
func (s *Shop) keep(g given) (string, api.Errno) {
	formula, has := s.formulas[g.words[0]]
	if !has {
		return "", api.ErrNone
	}
	class := g.words[1][0]
	valid, e := modal.Valid(formula, class)
	if e != api.OK || valid {
		return say("keep", "valid"), e
	}
	_, can, e := modal.Satisfy(formula, class)
	if can {
		return say("keep", "maybe"), e
	}
	return say("keep", "never"), e
}

// reach tells the chance to come from one window to another one.
func (s *Shop) reach(g given) (string, api.Errno) {
	if !areBelow(windows, g.numbers...) {
		return "", api.ErrArg
	}
	from, to := g.numbers[0], g.numbers[1]
	chances, e := walk.Reach(s.chances, 1<<to)
	if e != api.OK {
		return "", e
	}
	return say("reach", chances[from].String()), api.OK
}

// share tells the shares for the class of a window.
func (s *Shop) share(g given) (string, api.Errno) {
	if !areBelow(windows, g.numbers...) {
		return "", api.ErrArg
	}
	shares, e := walk.Shares(s.chances, g.numbers[0])
	return say("share", answers(shares, num.Rat.String)...), e
}

// firms tells whether the table is productive.
func (s *Shop) firms(given) (string, api.Errno) {
	_, productive, e := leon.Productive(s.uses)
	return say("firms", yesOrNo(productive)), e
}

// output tells what to make so that 1 of everything is left.
func (s *Shop) output(given) (string, api.Errno) {
	made, productive, e := leon.Productive(s.uses)
	if e == api.OK && !productive {
		return "", api.ErrNone
	}
	return say("make", answers(made, num.Rat.String)...), e
}

// deal tells who gets which item. Of a single bid the first best bundle has at most one item: with fewer of them it is as good, and comes first.
func (s *Shop) deal(given) (string, api.Errno) {
	bids, e := bid.Single(items, s.offers)
	if e != api.OK {
		return "", e
	}
	_, bundles, e := bid.Best(items, bids)
	return say("deal", answers(bundles, itemOf)...), e
}

// itemOf writes the item of a bundle that has at most one.
func itemOf(bundle int) string {
	if bundle == 0 {
		return nothing
	}
	return strconv.Itoa(bits.TrailingZeros(uint(bundle)))
}

// pay tells what each bidder pays.
func (s *Shop) pay(given) (string, api.Errno) {
	bids, e := bid.Single(items, s.offers)
	if e != api.OK {
		return "", e
	}
	payments, e := bid.Payments(items, bids)
	return say("pay", answers(payments, func(n int64) string { return strconv.FormatInt(n, 10) })...), e
}

// cups tells how many points the longest cup and the longest cap have.
func (s *Shop) cups(given) (string, api.Errno) {
	cup, e := cups.Cup(s.points)
	if e != api.OK {
		return "", e
	}
	bow, e := cups.Cap(s.points)
	return say("cups", strconv.Itoa(len(cup)), strconv.Itoa(len(bow))), e
}

// cross tells the number of crossings.
func (s *Shop) cross(given) (string, api.Errno) {
	n, e := cups.Crossings(s.points)
	return say("cross", strconv.Itoa(n)), e
}

// home tells how many moves it takes to the position of a new shop.
func (s *Shop) home(given) (string, api.Errno) {
	n, edges := board()
	moves, _, e := slide.Solve(n, edges, s.position, startingPosition())
	return say("home", strconv.Itoa(len(moves))), e
}
