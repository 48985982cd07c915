package trans

import (
	"maps"
	"slices"
)

const (
	maxWord    = 10   // letters of a word of which Outputs tells the outputs
	maxOutputs = 1000 // of such a word
)

// outputs returns the outputs of w, in the order of strings, or false if there are too many. Only runs that the rest of w can end are followed: each output so far then becomes one of w, and no two of one state become the same, so that too many of one state are too many for w.
func (m Machine) outputs(w string) ([]string, bool) {
	open := m.accepting(w)
	written := m.nothing()
	if open[0][m.Start] {
		written[m.Start][""] = true
	}
	for i, c := range w {
		longer := m.nothing()
		for q, list := range written {
			for e := range m.from(q, byte(c)) {
				if open[i+1][e.To] {
					join(longer[e.To], list, e.Output)
				}
			}
		}
		if slices.ContainsFunc(longer, tooMany) {
			return nil, false
		}
		written = longer
	}
	all := map[string]bool{}
	for q, list := range written {
		join(all, list, m.Ends[q].After)
	}
	return slices.Sorted(maps.Keys(all)), !tooMany(all)
}

// accepting returns for each position in w, and for each state, whether what follows there in w is accepted from that state.
func (m Machine) accepting(w string) [][]bool {
	out := make([][]bool, len(w)+1)
	for i := range out {
		out[i] = make([]bool, len(m.Ends))
	}
	for q, end := range m.Ends {
		out[len(w)][q] = end.Final
	}
	for i := len(w) - 1; i >= 0; i-- {
		for q := range m.Ends {
			for e := range m.from(q, w[i]) {
				out[i][q] = out[i][q] || out[i+1][e.To]
			}
		}
	}
	return out
}

// nothing is an empty set of outputs for each state.
func (m Machine) nothing() []map[string]bool {
	out := make([]map[string]bool, len(m.Ends))
	for q := range out {
		out[q] = map[string]bool{}
	}
	return out
}

// join puts the words of list, with more after each, into another set.
func join(set, list map[string]bool, more string) {
	for s := range list {
		set[s+more] = true
	}
}

func tooMany(list map[string]bool) bool {
	return len(list) > maxOutputs
}
