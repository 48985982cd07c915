package walk

import (
	"strings"

	"squeegee/api"
	"squeegee/num"
)

const (
	maxElements = 8  // of a chain
	maxFigures  = 6  // digits of a numerator or a denominator
	maxSteps    = 50 // of After
	maxAmount   = 30 // of Ruin
)

// chain is a matrix that was found to be one, and what leads where in it.
type chain struct {
	chances [][]num.Rat
	next    [maxElements]group // for each element those to which one step leads
	leads   [maxElements]group // for each element those to which it leads
}

// newChain is the chain of a matrix, or ErrChain.
func newChain(m [][]num.Rat) *chain {
	must(isChain(m), api.ErrChain)
	c := &chain{chances: m}
	for i, row := range m {
		for j, chance := range row {
			if chance.Sign() > 0 {
				c.next[i] |= only(j)
			}
		}
	}
	for i := range m {
		c.leads[i] = only(i)
		for range m {
			c.leads[i] |= c.step(c.leads[i])
		}
	}
	return c
}

// newClosed is the chain of a matrix, with an element of a closed class: ErrChain, ErrArg or ErrStuck.
func newClosed(m [][]num.Rat, i int) *chain {
	c := newChain(m)
	must(c.has(i), api.ErrArg)
	must(c.isClosed(i), api.ErrStuck)
	return c
}

// newWhole is the chain of a matrix, which is one class: ErrChain or ErrStuck.
func newWhole(m [][]num.Rat) *chain {
	c := newChain(m)
	must(c.isOneClass(), api.ErrStuck)
	return c
}

func isChain(m [][]num.Rat) bool {
	if num.Check(m) != api.OK || len(m) != len(m[0]) {
		return false
	}
	for _, row := range m {
		if !areChances(row) {
			return false
		}
	}
	return true
}

// areChances reports whether fractions may be a row of a chain.
func areChances(list []num.Rat) bool {
	var all num.Rat
	for _, r := range list {
		if r.Sign() < 0 || !isShort(r) {
			return false
		}
		all = sum(all, r)
	}
	return all.Cmp(num.Of(1)) == 0
}

// isShort reports whether a fraction may stand in a chain, as far as its digits go.
func isShort(r num.Rat) bool {
	top, low := r.Parts()
	return len(strings.TrimPrefix(top, "-")) <= maxFigures && len(low) <= maxFigures
}

func (c *chain) has(i int) bool {
	return i >= 0 && i < len(c.chances)
}

// group is the set of elements that a number stands for, or ErrArg.
func (c *chain) group(set int) group {
	must(set >= 1 && set < 1<<len(c.chances), api.ErrArg)
	return group(set)
}

// step is where one may be after one step from an element of a group.
func (c *chain) step(from group) group {
	var out group
	for i := range from.elements() {
		out |= c.next[i]
	}
	return out
}

// class is the class of an element.
func (c *chain) class(i int) group {
	var out group
	for j := range c.leads[i].elements() {
		if c.leads[j].has(i) {
			out |= only(j)
		}
	}
	return out
}

// isClosed reports whether the class of an element is closed.
func (c *chain) isClosed(i int) bool {
	return c.leads[i] == c.class(i)
}

func (c *chain) isOneClass() bool {
	return c.class(0) == below(len(c.chances))
}

// period is the period of an element of a closed class. Ways back consist of rings. Each ring is the difference of two ways that are not long: one goes to the ring and back, the other one around it as well, and the three parts have at most as many steps each as there are elements.
func (c *chain) period(i int) int {
	out := 0
	at := only(i)
	for steps := 1; steps <= 3*len(c.chances); steps++ {
		at = c.step(at)
		if at.has(i) {
			out = commonDivisor(out, steps)
		}
	}
	return out
}

func commonDivisor(a, b int) int {
	for b > 0 {
		a, b = b, a%b
	}
	return a
}
