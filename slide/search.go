package slide

import "slices"

// search is the positions that can be reached by some number of moves from a start.
type search struct {
	board  *board
	before map[position]position // one move nearer to the start; the start is before itself
	newest []position            // those that need just that number of moves
}

func (b *board) searchFrom(start position) *search {
	return &search{b, map[position]position{start: start}, []position{start}}
}

func (s *search) knows(p position) bool {
	_, known := s.before[p]
	return known
}

// grow goes one move farther, and gives the positions that are new.
func (s *search) grow(yield func(position) bool) {
	last := s.newest
	s.newest = nil
	for _, p := range last {
		for q := range s.board.after(p) {
			if s.knows(q) {
				continue
			}
			s.before[q] = p
			s.newest = append(s.newest, q)
			if !yield(q) {
				return
			}
		}
	}
}

// meeting lets two searches grow until they meet, if they do, at the position that it returns. As all nearer ones were looked at before, no shorter way leads from one start to the other than the one through it.
func meeting(one, other *search) (position, bool) {
	var meet position
	found := false
search:
	for len(one.newest) > 0 && len(other.newest) > 0 {
		grow, across := one.grow, other
		if len(other.newest) < len(one.newest) {
			grow, across = other.grow, one
		}
		for p := range grow {
			if across.knows(p) {
				meet, found = p, true
				break search
			}
		}
	}
	return meet, found
}

// solution is a solution from p to q with as few moves as possible, if there is one.
func (b *board) solution(p, q position) ([]int, bool) {
	if p == q {
		return nil, true
	}
	first, last := b.searchFrom(p), b.searchFrom(q)
	meet, found := meeting(first, last)
	if !found {
		return nil, false
	}
	back := func(s *search) []int { // the places of the hole, from the meeting back to the start
		at := meet
		holes := []int{at.hole()}
		for s.before[at] != at {
			at = s.before[at]
			holes = append(holes, at.hole())
		}
		return holes
	}
	holes := back(first)
	slices.Reverse(holes)
	return slices.Concat(holes[1:], back(last)[1:]), true
}

// levels lists the positions that can be reached from p, by how many moves they need.
func (b *board) levels(p position) [][]position {
	var out [][]position
	s := b.searchFrom(p)
	for level := s.newest; len(level) > 0; level = slices.Collect(s.grow) {
		out = append(out, level)
	}
	return out
}

func (b *board) count(p position) int {
	out := 0
	for _, level := range b.levels(p) {
		out += len(level)
	}
	return out
}

// size is the number of positions with the hole at place 0 that can be reached from the one in which each number is at its own place.
func (b *board) size() int {
	out := 0
	for _, level := range b.levels(newPosition(nil)) {
		for _, p := range level {
			if p[0] == 0 {
				out++
			}
		}
	}
	return out
}

// farthest is how many moves the farthest positions need, and how many those are.
func (b *board) farthest(p position) (int, int) {
	levels := b.levels(p)
	moves := len(levels) - 1
	return moves, len(levels[moves])
}
