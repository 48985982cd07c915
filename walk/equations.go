package walk

import (
	"squeegee/api"
	"squeegee/num"
)

// term is an unknown, and by what it is multiplied.
type term struct {
	unknown int
	factor  num.Rat
}

// equations are linear equations, with an unknown for each element of a chain.
type equations struct {
	unknowns int
	rows     [][]num.Rat
	right    []num.Rat
}

func (c *chain) equations() *equations {
	return &equations{unknowns: len(c.chances)}
}

// add adds the equation that the sum of the terms is right.
func (q *equations) add(right num.Rat, terms ...term) {
	row := make([]num.Rat, q.unknowns)
	for _, t := range terms {
		row[t.unknown] = t.factor
	}
	q.rows = append(q.rows, row)
	q.right = append(q.right, right)
}

// solution is the solution; there is just one.
func (q *equations) solution() []num.Rat {
	x, _, e := num.Solve(q.rows, q.right)
	must(e == api.OK, e)
	return x
}

// loss is element i, j of the unit matrix less the chain.
func (c *chain) loss(i, j int) num.Rat {
	if i == j {
		return difference(num.Of(1), c.chances[i][j])
	}
	return c.chances[i][j].Neg()
}

// terms has a term for each element.
func (c *chain) terms(factor func(i int) num.Rat) []term {
	var out []term
	for i := range c.chances {
		out = append(out, term{i, factor(i)})
	}
	return out
}

// onward are the terms of what the unknown of i is more than it is expected to be after one step from i.
func (c *chain) onward(i int) []term {
	return c.terms(func(j int) num.Rat { return c.loss(i, j) })
}

// inward are the terms of what the unknown of j is more than what comes to j by one step, if the unknowns are chances.
func (c *chain) inward(j int) []term {
	return c.terms(func(i int) num.Rat { return c.loss(i, j) })
}

// reach returns the chances to reach a group.
func (c *chain) reach(goal group) []num.Rat {
	q := c.equations()
	for i, leads := range c.leads[:len(c.chances)] {
		switch {
		case goal.has(i):
			q.add(num.Of(1), term{i, num.Of(1)})
		case leads&goal == 0:
			q.add(num.Of(0), term{i, num.Of(1)})
		default:
			// The goal's elements are unknowns, too: the sum of the chances to go there may have too many digits for num's equations.
			q.add(num.Of(0), c.onward(i)...)
		}
	}
	return q.solution()
}

// time returns the expected times to a group, or ErrStuck. If each element leads to it, it is reached for sure.
func (c *chain) time(goal group) []num.Rat {
	q := c.equations()
	for i, leads := range c.leads[:len(c.chances)] {
		must(leads&goal != 0, api.ErrStuck)
		if goal.has(i) {
			q.add(num.Of(0), term{i, num.Of(1)})
		} else {
			q.add(num.Of(1), c.onward(i)...)
		}
	}
	return q.solution()
}

// shares returns the shares for the class of i, which is closed. One of its equations follows from the others: that they add up to 1 stands in its place.
func (c *chain) shares(i int) []num.Rat {
	q := c.equations()
	class := c.class(i)
	for j := range c.chances {
		switch {
		case j == i:
			q.add(num.Of(1), c.terms(func(k int) num.Rat { return num.Of(int64(class >> k & 1)) })...)
		case class.has(j):
			q.add(num.Of(0), c.inward(j)...)
		default:
			q.add(num.Of(0), term{j, num.Of(1)})
		}
	}
	return q.solution()
}

// trees returns the sum of the weights of all trees to j. By the tree theorem it is a determinant.
func (c *chain) trees(j int) num.Rat {
	var rest [][]num.Rat
	for i := range c.chances {
		if i == j {
			continue
		}
		var row []num.Rat
		for k := range c.chances {
			if k != j {
				row = append(row, c.loss(i, k))
			}
		}
		rest = append(rest, row)
	}
	if len(rest) == 0 {
		return num.Of(1)
	}
	return valid(num.Det(rest))
}
