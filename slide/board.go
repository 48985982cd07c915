package slide

import (
	"iter"
	"math/bits"
	"slices"

	"squeegee/api"
)

const (
	minPlaces = 2
	maxPlaces = 9
)

func isSize(n int) bool {
	return n >= minPlaces && n <= maxPlaces
}

// set is a set of places, as bits.
type set uint16

// allPlaces is the set of all of n places.
func allPlaces(n int) set {
	return 1<<n - 1
}

// has reports whether a number is a place of a set.
func (s set) has(number int) bool {
	return number >= 0 && s>>number&1 == 1
}

// places gives the places of a set, rising.
func (s set) places() iter.Seq[int] {
	return func(yield func(int) bool) {
		for ; s != 0; s &= s - 1 {
			if !yield(bits.TrailingZeros16(uint16(s))) {
				return
			}
		}
	}
}

// grown is a set with all that is added to it, step by step, until nothing is new.
func (s set) grown(add func(set) set) set {
	for {
		more := s | add(s)
		if more == s {
			return s
		}
		s = more
	}
}

// board is the number of places, and for each of them those to which it has edges.
type board struct {
	n    int
	next [maxPlaces]set
}

// newBoard is the board with some edges: ErrArg if n is not a number of places, ErrBoard if there is no such board.
func newBoard(n int, edges [][2]int) (*board, api.Errno) {
	if !isSize(n) {
		return nil, api.ErrArg
	}
	b := &board{n: n}
	var last [2]int // less than any edge
	for _, edge := range edges {
		i, j := edge[0], edge[1]
		if i < 0 || i >= j || j >= n || slices.Compare(last[:], edge[:]) >= 0 {
			return nil, api.ErrBoard
		}
		b.next[i] |= 1 << j
		b.next[j] |= 1 << i
		last = edge
	}
	if !b.isConnected(allPlaces(n)) {
		return nil, api.ErrBoard
	}
	return b, api.OK
}

// given is the board and the positions that a call was given: what is wrong with the board, or else ErrArg if a list is not a position of it.
func given(n int, edges [][2]int, lists ...[]int) (*board, []position, api.Errno) {
	b, e := newBoard(n, edges)
	if e != api.OK {
		return nil, nil, e
	}
	var positions []position
	for _, p := range lists {
		if !isPosition(n, p) {
			return nil, nil, api.ErrArg
		}
		positions = append(positions, newPosition(p))
	}
	return b, positions, api.OK
}

// near is all places that have an edge to one of a set.
func (b *board) near(s set) set {
	var out set
	for place := range s.places() {
		out |= b.next[place]
	}
	return out
}

// isConnected reports whether some places are connected by the edges between them.
func (b *board) isConnected(places set) bool {
	first := places & -places
	return first.grown(func(s set) set { return b.near(s) & places }) == places
}

func (b *board) isWhole() bool {
	all := allPlaces(b.n)
	for place := range all.places() {
		if !b.isConnected(all &^ (1 << place)) {
			return false
		}
	}
	return b.n >= 3
}

// side is the side with place 0, if there are two: the places that are an even number of edges away, none of which may have an edge to another one.
func (b *board) side() (set, bool) {
	side := set(1).grown(func(s set) set { return b.near(b.near(s)) })
	if side&b.near(side) != 0 {
		return 0, false
	}
	return side, true
}

// gridEdges lists the edges of a grid, in the order of lists.
func gridEdges(rows, columns int) [][2]int {
	var out [][2]int
	for place := range rows * columns {
		if place%columns < columns-1 {
			out = append(out, [2]int{place, place + 1})
		}
		if place/columns < rows-1 {
			out = append(out, [2]int{place, place + columns})
		}
	}
	return out
}
