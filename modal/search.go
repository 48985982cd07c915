package modal

import (
	"iter"
	"maps"
)

// attempt is how a demand may be met.
type attempt struct {
	world   set  // what the world that meets it makes true
	trusted bool // it was taken to be met before that was known
}

// search looks for the worlds that there are in models of a class. What such a world must make true is a demand.
type search struct {
	*stock
	frame
	met   map[set]*attempt // the demands that are met for sure
	lost  map[set]bool     // the demands that no world meets
	tried map[set]*attempt // the demands that are met if those that are trusted are
	wrong bool             // one that was trusted is lost
}

// newSearch is a search for a world at which n is true, or, if that is not wanted, one at which it is not; and the demand for it.
func newSearch(n node, wanted bool, f frame) (*search, set) {
	formulas, root := newStock(n, wanted)
	return &search{stock: formulas, frame: f, met: map[set]*attempt{}, lost: map[set]bool{}}, only(root)
}

// meets reports whether there is a world that meets a demand. If something was trusted that is lost, it tries again; what is lost is lost even so.
func (s *search) meets(demand set) bool {
	for {
		s.tried = map[set]*attempt{}
		s.wrong = false
		ok := s.try(demand)
		if !s.wrong {
			maps.Copy(s.met, s.tried)
		}
		if !ok || !s.wrong {
			return ok
		}
	}
}

// try reports whether a demand is met. One that comes up while it is tried is trusted: worlds may see one another.
func (s *search) try(demand set) bool {
	if s.lost[demand] {
		return false
	}
	if s.met[demand] != nil {
		return true
	}
	if a := s.tried[demand]; a != nil {
		a.trusted = true
		return true
	}
	a := &attempt{}
	s.tried[demand] = a
	for w := range s.worlds(demand) {
		if s.tryAll(s.needs(w)) {
			a.world = w
			return true
		}
	}
	delete(s.tried, demand)
	s.lost[demand] = true
	s.wrong = s.wrong || a.trusted
	return false
}

func (s *search) tryAll(demands iter.Seq[set]) bool {
	for d := range demands {
		if !s.try(d) {
			return false
		}
	}
	return true
}

// parts is the set of what stands behind the signs of some formulas #F and *F.
func (s *search) parts(formulas set) set {
	var out set
	for i := range formulas.all() {
		out |= only(s.entries[i].left)
	}
	return out
}

// pending are the formulas *F that a world makes true, but not by itself.
func (s *search) pending(world set) set {
	out := world & s.kinds[possibly]
	for i := range out.all() {
		if s.reflexive && world&only(s.entries[i].left) != 0 {
			out &^= only(i)
		}
	}
	return out
}

// needs yields the demands for the worlds that a world must see.
func (s *search) needs(world set) iter.Seq[set] {
	necessary := world & s.kinds[necessarily]
	everywhere := s.parts(necessary)
	if s.transitive {
		everywhere |= necessary
	}
	return func(yield func(set) bool) {
		for i := range s.pending(world).all() {
			if !yield(everywhere | only(s.entries[i].left)) {
				return
			}
		}
	}
}

// worlds yields what worlds make true that meet a demand, as far as they can do that themselves: each world that meets it makes all that true in one of these ways.
func (s *search) worlds(demand set) iter.Seq[set] {
	return func(yield func(set) bool) {
		s.decide(0, demand, yield)
	}
}

// decide yields the ways to make true what is decided and what is still open, and returns false if yield does.
func (s *search) decide(decided, open set, yield func(set) bool) bool {
	for open != 0 {
		i := s.next(open)
		decided |= only(i)
		open &^= only(i)
		left, right := only(s.entries[i].left), only(s.entries[i].right)
		switch n := s.entries[i].node.(type) {
		case elsewhere:
			if n.kind == necessarily && s.reflexive {
				open |= left &^ decided
			}
		case pair:
			if n.kind == both {
				open |= (left | right) &^ decided
			} else if (decided|open)&(left|right) == 0 {
				return s.decide(decided, open|left, yield) && s.decide(decided, open|right, yield)
			}
		}
		if s.isClosed(decided | open) {
			return true
		}
	}
	return yield(decided)
}

// next is the formula to be decided next. (F|G) comes last: by then F or G may be true anyway.
func (s *search) next(open set) int {
	if rest := open &^ s.kinds[either]; rest != 0 {
		return rest.first()
	}
	return open.first()
}
