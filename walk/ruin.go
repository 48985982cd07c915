package walk

import "squeegee/num"

// ruin returns the chance to end with to, and the expected number of games.
//
// What one more of the amount adds to the chance is, from amount to amount, multiplied by r, the chance to lose divided by p: the chance is the sum of the powers of r below from, divided by that of those below to. What one more adds to the games is multiplied by r, too, and then less 1/p.
func ruin(p num.Rat, from, to int) (num.Rat, num.Rat) {
	r := quotient(difference(num.Of(1), p), p)
	powers, sums := progress(r, to)
	start, startSums := progress(r, from)
	chance := quotient(start, powers)
	games := quotient(difference(product(chance, sums), startSums), p)
	return chance, games
}

// progress returns the sum of the first powers of r, n of them from the power 0 on, and the sum of all such sums of fewer powers.
func progress(r num.Rat, n int) (num.Rat, num.Rat) {
	var powers, sums num.Rat
	for range n {
		sums = sum(sums, powers)
		powers = sum(product(powers, r), num.Of(1))
	}
	return powers, sums
}
