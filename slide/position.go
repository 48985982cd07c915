package slide

import (
	"iter"
	"slices"
)

// position is the number at each place. The places that a board does not have keep their own numbers, so that its positions can be compared as a whole.
type position [maxPlaces]int8

// isPosition reports whether p has each number from 0 to n - 1 once.
func isPosition(n int, p []int) bool {
	if len(p) != n {
		return false
	}
	var found set
	for _, number := range p {
		if number < 0 || number >= n {
			return false
		}
		found |= 1 << number
	}
	return found == allPlaces(n)
}

// newPosition is the position of a list; that of no list has each number at its own place.
func newPosition(list []int) position {
	var p position
	for place := range p {
		p[place] = int8(place)
	}
	for place, number := range list {
		p[place] = int8(number)
	}
	return p
}

// list is the numbers at the first n places.
func (p position) list(n int) []int {
	var out []int
	for _, number := range p[:n] {
		out = append(out, int(number))
	}
	return out
}

func (p position) hole() int {
	return slices.Index(p[:], 0)
}

// moved is the position after the hole was moved from one place to another.
func (p position) moved(from, to int) position {
	p[from], p[to] = p[to], p[from]
	return p
}

// sign is -1 if an odd number of pairs is out of order in the permutation that takes the numbers of p to those of q, otherwise 1.
func (p position) sign(q position) int {
	var taken position
	for place, number := range p {
		taken[number] = q[place]
	}
	out := 1
	for i, number := range taken {
		for _, earlier := range taken[:i] {
			if earlier > number {
				out = -out
			}
		}
	}
	return out
}

// after gives the positions that one move leads to.
func (b *board) after(p position) iter.Seq[position] {
	return func(yield func(position) bool) {
		hole := p.hole()
		for place := range b.next[hole].places() {
			if !yield(p.moved(hole, place)) {
				return
			}
		}
	}
}

// apply is the position after moves, up to the first one without an edge, and how many those are.
func (b *board) apply(p position, moves []int) (position, int) {
	hole := p.hole()
	for done, place := range moves {
		if !b.next[hole].has(place) {
			return p, done
		}
		p, hole = p.moved(hole, place), place
	}
	return p, len(moves)
}
