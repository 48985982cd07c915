package trans

import "strings"

// outputsOf returns for each useful state of a trimmed sequential machine one of its outputs: After, if it is final.
func (m Machine) outputsOf() []string {
	out := make([]string, len(m.Ends))
	known := make([]bool, len(m.Ends))
	for q, end := range m.Ends {
		out[q], known[q] = end.After, end.Final
	}
	for range m.Ends {
		for _, e := range m.Edges {
			if known[e.To] && !known[e.From] {
				out[e.From], known[e.From] = e.Output+out[e.To], true
			}
		}
	}
	return out
}

// beginnings returns for each useful state of a trimmed sequential machine the longest common beginning of its outputs. It cuts back one output of each state until that agrees with what the edges write.
func (m Machine) beginnings() []string {
	out := m.outputsOf()
	for changed := true; changed; {
		changed = false
		for q := range m.Ends {
			words := []string{out[q]}
			for e := range m.fromAny(q) {
				words = append(words, e.Output+out[e.To])
			}
			if c := common(words...); c != out[q] {
				out[q], changed = c, true
			}
		}
	}
	return out
}

// early writes each letter as soon as it is known. It returns what is written before all outputs of a trimmed sequential machine, and the machine that writes the rest.
func (m Machine) early() (string, Machine) {
	known := m.beginnings()
	out := Machine{Start: m.Start}
	for _, e := range m.Edges {
		e.Output = strings.TrimPrefix(e.Output+known[e.To], known[e.From])
		out.Edges = append(out.Edges, e)
	}
	for q, end := range m.Ends {
		end.After = strings.TrimPrefix(end.After, known[q])
		out.Ends = append(out.Ends, end)
	}
	return known[m.Start], out
}

// merged returns for each state of an early machine the first state with the same relation.
func (m Machine) merged() []int {
	class := make([]int, len(m.Ends))
	alike := func(p, q int) bool {
		return m.Ends[p] == m.Ends[q] && m.within(p, q, class) && m.within(q, p, class)
	}
	for changed := true; changed; {
		changed = false
		finer := make([]int, len(class))
		for q := range class {
			for !alike(finer[q], q) {
				finer[q]++
			}
			changed = changed || finer[q] != class[q]
		}
		class = finer
	}
	return class
}

// within reports whether state q has an edge like each of those of state p, up to classes of states.
func (m Machine) within(p, q int, class []int) bool {
	for e := range m.fromAny(p) {
		found := false
		for f := range m.from(q, e.Letter) {
			found = found || e.Output == f.Output && class[e.To] == class[f.To]
		}
		if !found {
			return false
		}
	}
	return true
}

// numbered is a machine of the classes that words lead to, in the order of the words that lead to them first.
func (m Machine) numbered(class []int) Machine {
	out := Machine{}
	numbers := map[int]int{class[m.Start]: 0}
	order := []int{class[m.Start]}
	for i := 0; i < len(order); i++ {
		q := order[i]
		out.Ends = append(out.Ends, m.Ends[q])
		for e := range m.fromAny(q) {
			to := class[e.To]
			if _, found := numbers[to]; !found {
				numbers[to] = len(order)
				order = append(order, to)
			}
			out.Edges = append(out.Edges, Edge{i, e.Letter, e.Output, numbers[to]})
		}
	}
	return out
}
