package leon

import (
	"slices"

	"squeegee/num"
)

// leaves is what an output leaves.
func (t *table) leaves(x []num.Rat) []num.Rat {
	return combine(x, used(t.needs, x), difference)
}

// remains has in column j what one unit of j's work leaves of each firm's work.
func (t *table) remains() [][]num.Rat {
	var out [][]num.Rat
	for i, row := range t.needs {
		unit := make([]num.Rat, len(row))
		unit[i] = num.Of(1)
		out = append(out, combine(unit, row, difference))
	}
	return out
}

// solution is the solution of equations that have just one.
func solution(m [][]num.Rat, right []num.Rat) []num.Rat {
	x, _, e := num.Solve(m, right)
	return valid(x, e)
}

func (t *table) corners() []num.Rat {
	var out []num.Rat
	remains := t.remains()
	for k := range remains {
		out = append(out, valid(num.Det(corner(remains, k+1))))
	}
	return out
}

// lack is the first firm at which the corner is not above 0, or -1.
func (t *table) lack() int {
	return slices.IndexFunc(t.corners(), func(c num.Rat) bool { return c.Sign() <= 0 })
}

// isProductive goes by Hawkins and Simon: all corners must be above 0.
func (t *table) isProductive() bool {
	return t.lack() < 0
}

// eater is a group that eats itself, or nil. The firms before the one at which the corner is not above 0 are, alone, a productive table. So they can make what a unit of that one's work uses of theirs, and leave nothing of it; of that one's own work the quotient of its corner and the one before it is left, which is at most 0.
func (t *table) eater() []num.Rat {
	last := t.lack()
	if last < 0 {
		return nil
	}
	group := make([]num.Rat, len(t.needs))
	if last > 0 {
		demand := mirrored(t.needs)[last][:last]
		copy(group, solution(corner(t.remains(), last), demand))
	}
	group[last] = num.Of(1)
	return group
}

// eats reports whether amounts, at least one of them above 0, leave at most 0 of everything.
func (t *table) eats(x []num.Rat) bool {
	above := func(r num.Rat) bool { return r.Sign() > 0 }
	return slices.ContainsFunc(x, above) && !slices.ContainsFunc(t.leaves(x), above)
}
