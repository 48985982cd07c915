package regex_test

import (
	"fmt"
	"slices"
)

// automaton is a complete deterministic automaton that starts in state 0.
type automaton struct {
	ends []bool
	next [][3]int
}

// mostSets is how many sets of states the plain way may go through.
const mostSets = 3000

// explored is the automaton of places that are known by name, from start on. There is none if there are too many.
func explored[P any](start P, end func(P) bool, step func(P, int) P) (automaton, bool) {
	var out automaton
	places := []P{start}
	numbers := map[string]int{fmt.Sprint(start): 0}
	for i := 0; i < len(places); i++ {
		if i == mostSets {
			return automaton{}, false
		}
		out.ends = append(out.ends, end(places[i]))
		var row [3]int
		for letter := range row {
			to := step(places[i], letter)
			number, found := numbers[fmt.Sprint(to)]
			if !found {
				number = len(places)
				numbers[fmt.Sprint(to)] = number
				places = append(places, to)
			}
			row[letter] = number
		}
		out.next = append(out.next, row)
	}
	return out.least(), true
}

// least is the automaton with the fewest states, numbered by the first words that lead to them (Moore).
func (m automaton) least() automaton {
	class := make([]int, len(m.ends))
	for q, end := range m.ends {
		if end {
			class[q] = 1
		}
	}
	for count := 0; ; {
		numbers := map[[4]int]int{}
		finer := make([]int, len(class))
		for q, row := range m.next {
			key := [4]int{class[q], class[row[0]], class[row[1]], class[row[2]]}
			if _, found := numbers[key]; !found {
				numbers[key] = len(numbers)
			}
			finer[q] = numbers[key]
		}
		class = finer
		if len(numbers) == count {
			return m.merged(class)
		}
		count = len(numbers)
	}
}

// merged makes one state of all states of a class.
func (m automaton) merged(class []int) automaton {
	var out automaton
	order := []int{0}
	number := map[int]int{class[0]: 0}
	for i := 0; i < len(order); i++ {
		out.ends = append(out.ends, m.ends[order[i]])
		var row [3]int
		for letter, to := range m.next[order[i]] {
			if _, found := number[class[to]]; !found {
				number[class[to]] = len(order)
				order = append(order, to)
			}
			row[letter] = number[class[to]]
		}
		out.next = append(out.next, row)
	}
	return out
}

// determinized is the automaton of the sets of states of one that may be in several: it goes through all sets.
func determinized(starts []int, end func(q int) bool, step func(q, letter int) []int) (automaton, bool) {
	return explored(starts, func(set []int) bool {
		return slices.ContainsFunc(set, end)
	}, func(set []int, letter int) []int {
		var out []int
		for _, q := range set {
			out = append(out, step(q, letter)...)
		}
		slices.Sort(out)
		return slices.Compact(out)
	})
}

// plain is the automaton of an expression, made in the plainest way: all pairs, all sets.
func (x *tree) plain() (automaton, bool) {
	var parts []automaton
	for _, p := range x.parts {
		m, ok := p.plain()
		if !ok {
			return automaton{}, false
		}
		parts = append(parts, m)
	}
	stay := [3]int{1, 1, 1}
	switch x.op {
	case '0':
		return automaton{[]bool{false}, [][3]int{{}}}, true
	case '1':
		return automaton{[]bool{true, false}, [][3]int{stay, stay}}, true
	case '!':
		return parts[0].flipped(), true
	case '*':
		return parts[0].starred()
	case '.', '&', '|':
		return together(x.op, parts)
	}
	m := automaton{[]bool{false, false, true}, [][3]int{stay, stay, stay}}
	m.next[0][x.op-'a'] = 2
	return m.least(), true
}

func (m automaton) flipped() automaton {
	out := automaton{next: m.next}
	for _, end := range m.ends {
		out.ends = append(out.ends, !end)
	}
	return out
}

// starred is in state -1, which is an end, before each word of m.
func (m automaton) starred() (automaton, bool) {
	step := func(q, letter int) []int {
		to := m.next[max(q, 0)][letter]
		if m.ends[to] {
			return []int{-1, to}
		}
		return []int{to}
	}
	return determinized([]int{-1}, func(q int) bool { return q == -1 }, step)
}

// followed is in the states of m, and in those of n, numbered after these, once a word of m is over.
func (m automaton) followed(n automaton) (automaton, bool) {
	size := len(m.ends)
	entered := func(q int) []int {
		if m.ends[q] {
			return []int{q, size}
		}
		return []int{q}
	}
	step := func(q, letter int) []int {
		if q < size {
			return entered(m.next[q][letter])
		}
		return []int{size + n.next[q-size][letter]}
	}
	return determinized(entered(0), func(q int) bool { return q >= size && n.ends[q-size] }, step)
}

// paired is in a state of m and in one of n; a word is over if it is so by the states of both.
func (m automaton) paired(n automaton, over func(inM, inN bool) bool) (automaton, bool) {
	return explored([2]int{}, func(p [2]int) bool {
		return over(m.ends[p[0]], n.ends[p[1]])
	}, func(p [2]int, letter int) [2]int {
		return [2]int{m.next[p[0]][letter], n.next[p[1]][letter]}
	})
}

// together puts the automata together, from the left on.
func together(op byte, list []automaton) (automaton, bool) {
	out, ok := list[0], true
	for _, m := range list[1:] {
		switch op {
		case '.':
			out, ok = out.followed(m)
		case '&':
			out, ok = out.paired(m, func(x, y bool) bool { return x && y })
		case '|':
			out, ok = out.paired(m, func(x, y bool) bool { return x || y })
		}
		if !ok {
			return automaton{}, false
		}
	}
	return out, true
}
