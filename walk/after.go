package walk

import "squeegee/num"

// after returns the chances after some steps. The chain's are whole numbers above a common denominator, by which all is divided at the end: to reduce long fractions in each step would take long. What divides a denominator of a row, if it is a power of a prime, divides two of them, as the sum is 1; so the common denominator has at most 192 digits, and what is calculated stays small.
func (c *chain) after(from []num.Rat, steps int) []num.Rat {
	scale := commonDenominator(c.chances)
	var rows [][]num.Rat
	for _, row := range c.chances {
		rows = append(rows, multiples(row, scale))
	}
	now, low := from, num.Of(1)
	for range steps {
		then := make([]num.Rat, len(now))
		for i, row := range rows {
			for j, part := range multiples(row, now[i]) {
				then[j] = sum(then[j], part)
			}
		}
		now = then
		low = product(low, scale)
	}
	return multiples(now, quotient(num.Of(1), low))
}

// commonDenominator is the least number of which the denominators of all elements are divisors.
func commonDenominator(m [][]num.Rat) num.Rat {
	out := num.Of(1)
	for _, row := range m {
		for _, r := range row {
			_, missing := product(out, r).Parts()
			out = product(out, valid(num.Parse(missing)))
		}
	}
	return out
}

// multiples are the fractions times a factor.
func multiples(list []num.Rat, factor num.Rat) []num.Rat {
	var out []num.Rat
	for _, r := range list {
		out = append(out, product(r, factor))
	}
	return out
}
