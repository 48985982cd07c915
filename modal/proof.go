package modal

import "slices"

const (
	maxNodes  = 5000
	maxLevels = 300
)

// The rules of proofs.
const (
	clash  = iota // there is 0, or an atom and ! with it
	split         // (F&G) becomes F and G
	choose        // (F|G) becomes F, or G
	move          // to the world of *F
)

// withoutRepeats returns a list in which a formula that occurs a second time is left out there.
func withoutRepeats(list []int) []int {
	var out []int
	for _, i := range list {
		if !slices.Contains(out, i) {
			out = append(out, i)
		}
	}
	return out
}

// replaced returns a list in which others stand for the formula with that index.
func replaced(list []int, at int, others ...int) []int {
	return withoutRepeats(slices.Concat(list[:at], others, list[at+1:]))
}

func setOf(list []int) set {
	var out set
	for _, i := range list {
		out |= only(i)
	}
	return out
}

// beyond returns the list of a formula and of all that a list makes true at all worlds.
func (s *stock) beyond(list []int, formula int) []int {
	out := []int{formula}
	for _, i := range list {
		if s.kinds[necessarily]&only(i) != 0 {
			out = append(out, s.entries[i].left)
		}
	}
	return withoutRepeats(out)
}

// after returns the lists that the parts of a proof prove if a rule is applied to a list, or false if it cannot be.
func (s *stock) after(list []int, rule, at int) ([][]int, bool) {
	if rule == clash {
		return nil, at == 0 && s.isClosed(setOf(list))
	}
	if at < 0 || at >= len(list) {
		return nil, false
	}
	e := s.entries[list[at]]
	switch n := e.node.(type) {
	case pair:
		if rule == split && n.kind == both {
			return [][]int{replaced(list, at, e.left, e.right)}, true
		}
		if rule == choose && n.kind == either {
			return [][]int{replaced(list, at, e.left), replaced(list, at, e.right)}, true
		}
	case elsewhere:
		if rule == move && n.kind == possibly {
			return [][]int{s.beyond(list, e.left)}, true
		}
	}
	return nil, false
}

// refute returns a proof that n cannot be true, or false if it can. A rule other than move loses nothing: if it does not lead to a proof, no other one does. Each formula of the normal form is replaced once at most on the way to a leaf of a proof, and there are 15 atoms at most, of which 5 groups of 3 with `|` make the most leaves, 243; so no proof has more than 5000 nodes.
func refute(n node) (Proof, bool) {
	s, root := newStock(n, true)
	var try func(list []int) (Proof, bool)
	tryAll := func(lists [][]int) ([]Proof, bool) {
		var parts []Proof
		for _, list := range lists {
			part, ok := try(list)
			if !ok {
				return nil, false
			}
			parts = append(parts, part)
		}
		return parts, true
	}
	try = func(list []int) (Proof, bool) {
		for rule := clash; rule <= move; rule++ {
			for at := range list {
				lists, fits := s.after(list, rule, at)
				if !fits {
					continue
				}
				parts, ok := tryAll(lists)
				if ok {
					return Proof{rule, at, parts}, true
				}
				if rule != move {
					return Proof{}, false
				}
			}
		}
		return Proof{}, false
	}
	return try([]int{root})
}

// proves reports whether p is a proof that n cannot be true.
func (p Proof) proves(n node) bool {
	s, root := newStock(n, true)
	nodes := 0
	var check func(p Proof, list []int, level int) bool
	check = func(p Proof, list []int, level int) bool {
		nodes++
		if nodes > maxNodes || level > maxLevels {
			return false
		}
		lists, fits := s.after(list, p.Rule, p.At)
		if !fits || len(p.Parts) != len(lists) {
			return false
		}
		for i, part := range p.Parts {
			if !check(part, lists[i], level+1) {
				return false
			}
		}
		return true
	}
	return check(p, []int{root}, 1)
}
