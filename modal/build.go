package modal

import (
	"slices"
	"strings"
)

// world is all that matters of a world for what it makes true.
type world struct {
	facts     set // atoms, 0, and ! with them
	necessary set // #F
	pending   set // *F
}

func (s *search) world(formulas set) world {
	others := s.kinds[necessarily] | s.kinds[possibly] | s.kinds[both] | s.kinds[either]
	return world{formulas &^ others, formulas & s.kinds[necessarily], s.pending(formulas)}
}

// model is a model of which world 0 meets a demand that is met. Where a world is needed, one that is there already is taken if it does.
func (s *search) model(root set) Model {
	var made []set
	numbers := map[world]int{}
	number := func(demand set) int {
		if i := slices.IndexFunc(made, func(formulas set) bool { return demand&^formulas == 0 }); i >= 0 {
			return i
		}
		formulas := s.most(demand)
		w := s.world(formulas)
		i, found := numbers[w]
		if !found {
			i = len(made)
			numbers[w] = i
			made = append(made, formulas)
		}
		return i
	}
	number(root)
	var m Model
	for w := 0; w < len(made); w++ {
		var seen []int
		for demand := range s.needs(made[w]) {
			seen = append(seen, number(demand))
		}
		m.Sees = append(m.Sees, seen)
		m.True = append(m.True, s.atoms(made[w]))
	}
	m.Sees = s.completed(m.Sees)
	return m
}

// most returns what a world makes true that meets a demand, which is met. It does itself what it demands of others, if it can: otherwise there might be thousands of worlds, each of which demands a bit less of the next. In the class K that would be more work for all of them, and there are few anyway, since what is demanded becomes less deep from world to world.
func (s *search) most(demand set) set {
	var asked set
	for {
		formulas := s.met[demand].world
		w := s.world(formulas)
		more := s.parts(w.necessary|w.pending) &^ (formulas | asked)
		if more == 0 || s.frame == (frame{}) {
			return formulas
		}
		one := only(more.first())
		asked |= one
		if s.meets(demand | one) {
			demand |= one
		}
	}
}

// atoms are the atoms among some formulas.
func (s *search) atoms(formulas set) string {
	var out strings.Builder
	for _, c := range atoms {
		if i, found := s.numbers[string(c)]; found && formulas&only(i) != 0 {
			out.WriteRune(c)
		}
	}
	return out.String()
}

// completed returns what worlds see, with what they see besides in a model of the class.
func (f frame) completed(sees [][]int) [][]int {
	var groups []group
	for w, seen := range sees {
		g := newGroup(len(sees), seen...)
		if f.reflexive {
			g.add(w)
		}
		groups = append(groups, g)
	}
	if f.transitive {
		closeTransitively(groups)
	}
	var out [][]int
	for _, g := range groups {
		out = append(out, g.list())
	}
	return out
}

// closeTransitively adds to each group the groups of its worlds: after each round those on the ways through the worlds so far.
func closeTransitively(sees []group) {
	for through, far := range sees {
		for _, g := range sees {
			if g.has(through) {
				g.addAll(far)
			}
		}
	}
}
