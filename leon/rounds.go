package leon

import (
	"iter"
	"slices"

	"squeegee/num"
)

// rounds gives amounts, what their making uses, what the making of that uses, and so on, up to the n-th step.
func rounds(needs [][]num.Rat, amounts []num.Rat, n int) iter.Seq[[]num.Rat] {
	return func(yield func([]num.Rat) bool) {
		now := amounts
		for range n {
			if !yield(now) {
				return
			}
			now = used(needs, now)
		}
		yield(now)
	}
}

// scaled is the table as whole numbers, and the common denominator by which it is multiplied. Rounds of long fractions, which are to be reduced at each step, would take long; those of whole numbers are divided once, at the end.
func (t *table) scaled() ([][]num.Rat, num.Rat) {
	scale := commonDenominator(t.needs...)
	var out [][]num.Rat
	for _, row := range t.needs {
		out = append(out, multiples(row, scale))
	}
	return out, scale
}

// commonDenominator is the least number of which the denominators of all fractions are divisors.
func commonDenominator(lists ...[]num.Rat) num.Rat {
	out := num.Of(1)
	for _, r := range slices.Concat(lists...) {
		_, missing := product(out, r).Parts()
		out = product(out, valid(num.Parse(missing)))
	}
	return out
}

// total is the sum of the rounds of a demand. The table has at most 64 denominators of 6 digits and the demand 8 of 20, so that after 20 steps there are less than 8000 digits below the line and less than 8300 above it.
func (t *table) total(demand []num.Rat, n int) []num.Rat {
	needs, scale := t.scaled()
	low := commonDenominator(demand)
	all := make([]num.Rat, len(demand))
	add := func(a, b num.Rat) num.Rat { return sum(product(a, scale), b) }
	for round := range rounds(needs, multiples(demand, low), n) {
		all = combine(all, round, add)
	}
	for range n {
		low = product(low, scale)
	}
	return multiples(all, quotient(num.Of(1), low))
}

// between is the least and the greatest quotient after some steps; all firms use each firm, so that no output is 0.
func (t *table) between(steps int) (num.Rat, num.Rat) {
	needs, scale := t.scaled()
	var made, use []num.Rat
	for round := range rounds(needs, t.ones(), steps+1) {
		made, use = use, round
	}
	quotients := combine(use, made, quotient)
	least, greatest := slices.MinFunc(quotients, num.Rat.Cmp), slices.MaxFunc(quotients, num.Rat.Cmp)
	return quotient(least, scale), quotient(greatest, scale)
}
