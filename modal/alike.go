package modal

// joined is a model that consists of two, first the worlds of m, then those of n.
func joined(m, n Model) Model {
	var out Model
	for _, part := range []Model{m, n} {
		before := len(out.Sees)
		for w, seen := range part.Sees {
			var row []int
			for _, v := range seen {
				row = append(row, before+v)
			}
			out.Sees = append(out.Sees, row)
			out.True = append(out.True, part.True[w])
		}
	}
	return out
}

// numbered gives numbers from 0 on to the worlds: the same number to those with the same key.
func numbered[K comparable](worlds int, key func(w int) K) []int {
	numbers := map[K]int{}
	out := make([]int, worlds)
	for w := range worlds {
		k := key(w)
		i, found := numbers[k]
		if !found {
			i = len(numbers)
			numbers[k] = i
		}
		out[w] = i
	}
	return out
}

// sizes returns for each class how many worlds it has.
func sizes(class []int) []int {
	out := make([]int, len(class))
	for _, c := range class {
		out[c]++
	}
	return out
}

// pieces returns those classes of worlds that are parts of larger classes before.
func pieces(before, class []int) []group {
	old, now := sizes(before), sizes(class)
	numbers := map[int]int{}
	var out []group
	for w, c := range class {
		if now[c] == old[before[w]] {
			continue
		}
		i, found := numbers[c]
		if !found {
			i = len(out)
			numbers[c] = i
			out = append(out, newGroup(len(class)))
		}
		out[i].add(w)
	}
	return out
}

// side is a class of worlds, and on which side of it they are: of those that see some worlds, or of those that do not.
type side struct {
	class int
	sees  bool
}

// difference returns the least depth of a formula that is true at just one of two worlds, or false if there is none. For one depth after the other, worlds are in a class if no formula of that depth tells them apart: the classes of the next depth are parts of these, of worlds that see the same classes. Only classes that are new are looked for then, since those of a class see the same old ones.
func (m Model) difference(v, w int) (int, bool) {
	sees := m.groups()
	class := numbered(len(sees), func(u int) string { return m.True[u] })
	one := make([]int, len(sees))
	everything := newGroup(len(sees))
	for u := range sees {
		everything.add(u)
	}
	fresh := append(pieces(one, class), everything)
	for depth := 0; ; depth++ {
		if class[v] != class[w] {
			return depth, true
		}
		if len(fresh) == 0 {
			return 0, false
		}
		next := class
		for _, g := range fresh {
			next = numbered(len(sees), func(u int) side { return side{next[u], sees[u].meets(g)} })
		}
		fresh = pieces(class, next)
		class = next
	}
}
