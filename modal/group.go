package modal

// group is a set of worlds.
type group []uint64

func newGroup(size int, worlds ...int) group {
	g := make(group, (size+63)/64)
	for _, w := range worlds {
		g.add(w)
	}
	return g
}

func (g group) add(w int) {
	g[w/64] |= 1 << (w % 64)
}

func (g group) has(w int) bool {
	return g[w/64]>>(w%64)&1 == 1
}

// list returns the worlds, rising.
func (g group) list() []int {
	var out []int
	for w := range 64 * len(g) {
		if g.has(w) {
			out = append(out, w)
		}
	}
	return out
}

// addAll adds the worlds of another group of the same size.
func (g group) addAll(other group) {
	for i, word := range other {
		g[i] |= word
	}
}

func (g group) meets(other group) bool {
	for i, word := range g {
		if word&other[i] != 0 {
			return true
		}
	}
	return false
}

func (g group) isWithin(other group) bool {
	for i, word := range g {
		if word&^other[i] != 0 {
			return false
		}
	}
	return true
}
