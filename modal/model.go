package modal

import (
	"slices"
	"strings"
)

const maxWorlds = 1000

// frame is a frame class: what all its models have.
type frame struct {
	reflexive, transitive bool
}

// frameOf returns the frame class of a letter, or false if there is none.
func frameOf(class byte) (frame, bool) {
	switch class {
	case 'K':
		return frame{}, true
	case 'T':
		return frame{reflexive: true}, true
	case '4':
		return frame{transitive: true}, true
	case 'S':
		return frame{reflexive: true, transitive: true}, true
	}
	return frame{}, false
}

// isValid reports whether m is a model as the chapter defines it; all else relies on that.
func (m Model) isValid() bool {
	n := len(m.Sees)
	if n < 1 || n > maxWorlds || len(m.True) != n {
		return false
	}
	for w, seen := range m.Sees {
		if !isRising(seen, n) || !isAtoms(m.True[w]) {
			return false
		}
	}
	return true
}

// isRising reports whether a list consists of numbers from 0 to limit - 1, rising.
func isRising(list []int, limit int) bool {
	last := -1
	for _, i := range list {
		if i <= last || i >= limit {
			return false
		}
		last = i
	}
	return true
}

// isAtoms reports whether s consists of different atoms in alphabetical order.
func isAtoms(s string) bool {
	rest := atoms
	for _, c := range s {
		i := strings.IndexRune(rest, c)
		if i < 0 {
			return false
		}
		rest = rest[i+1:]
	}
	return true
}

func (m Model) has(world int) bool {
	return world >= 0 && world < len(m.Sees)
}

// groups returns for each world the worlds that it sees.
func (m Model) groups() []group {
	var out []group
	for _, seen := range m.Sees {
		out = append(out, newGroup(len(m.Sees), seen...))
	}
	return out
}

// isIn reports whether m is a model of a frame class.
func (m Model) isIn(f frame) bool {
	sees := m.groups()
	for w, g := range sees {
		if f.reflexive && !g.has(w) {
			return false
		}
		for _, v := range m.Sees[w] {
			if f.transitive && !sees[v].isWithin(g) {
				return false
			}
		}
	}
	return true
}

// where tells for each world whether something is the case there.
func (m Model) where(isCase func(w int) bool) []bool {
	var out []bool
	for w := range m.Sees {
		out = append(out, isCase(w))
	}
	return out
}

// truth tells for each world whether n is true there.
func (m Model) truth(n node) []bool {
	switch n := n.(type) {
	case leaf:
		return m.where(func(w int) bool { return strings.ContainsRune(m.True[w], n.sign) })
	case not:
		of := m.truth(n.of)
		return m.where(func(w int) bool { return !of[w] })
	case elsewhere:
		of := m.truth(n.of)
		wanted := n.kind == possibly
		is := func(v int) bool { return of[v] == wanted }
		return m.where(func(w int) bool { return slices.ContainsFunc(m.Sees[w], is) == wanted })
	case pair:
		left, right := m.truth(n.left), m.truth(n.right)
		return m.where(func(w int) bool { return n.kind.joins(left[w], right[w]) })
	}
	return nil
}
