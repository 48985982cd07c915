package trans

import (
	"cmp"
	"iter"
	"slices"
	"strings"
)

const (
	inputLetters  = "ab"
	outputLetters = "xy"
	maxStates     = 5
	maxEdges      = 20
	maxWritten    = 3 // letters of an output of a given machine
)

// isWord reports whether s consists of at most that many of the letters.
func isWord(s, letters string, most int) bool {
	if len(s) > most {
		return false
	}
	for _, c := range s {
		if !strings.ContainsRune(letters, c) {
			return false
		}
	}
	return true
}

// isValid reports whether m is a machine as the chapter defines it; all else relies on that. With a start, it has a state.
func (m Machine) isValid() bool {
	if len(m.Ends) > maxStates || len(m.Edges) > maxEdges || !m.isState(m.Start) {
		return false
	}
	for i, e := range m.Edges {
		if !m.isEdge(e) || i > 0 && compareEdges(m.Edges[i-1], e) >= 0 {
			return false
		}
	}
	for _, end := range m.Ends {
		if !isWord(end.After, outputLetters, maxWritten) || !end.Final && end.After != "" {
			return false
		}
	}
	return true
}

func (m Machine) isState(q int) bool {
	return q >= 0 && q < len(m.Ends)
}

func (m Machine) isEdge(e Edge) bool {
	return m.isState(e.From) && m.isState(e.To) && strings.IndexByte(inputLetters, e.Letter) >= 0 && isWord(e.Output, outputLetters, maxWritten)
}

func compareEdges(e, f Edge) int {
	return cmp.Or(cmp.Compare(e.From, f.From), cmp.Compare(e.Letter, f.Letter), cmp.Compare(e.To, f.To), cmp.Compare(e.Output, f.Output))
}

// isSequential looks at neighbours only: the edges are in order.
func (m Machine) isSequential() bool {
	for i := 1; i < len(m.Edges); i++ {
		if m.Edges[i-1].From == m.Edges[i].From && m.Edges[i-1].Letter == m.Edges[i].Letter {
			return false
		}
	}
	return true
}

// from yields the edges from a state with a letter.
func (m Machine) from(state int, letter byte) iter.Seq[Edge] {
	return func(yield func(Edge) bool) {
		for _, e := range m.Edges {
			if e.From == state && e.Letter == letter && !yield(e) {
				return
			}
		}
	}
}

// fromAny yields the edges from a state, by their letters.
func (m Machine) fromAny(state int) iter.Seq[Edge] {
	return func(yield func(Edge) bool) {
		for _, letter := range []byte(inputLetters) {
			for e := range m.from(state, letter) {
				if !yield(e) {
					return
				}
			}
		}
	}
}

// moves yields for each edge the states that it joins.
func (m Machine) moves(yield func(from, to int) bool) {
	for _, e := range m.Edges {
		if !yield(e.From, e.To) {
			return
		}
	}
}

// reached returns for each of so many places to which of them any number of moves leads.
func reached(size int, moves iter.Seq2[int, int]) [][]bool {
	out := make([][]bool, size)
	for i := range out {
		out[i] = make([]bool, size)
		out[i][i] = true
	}
	for from, to := range moves {
		out[from][to] = true
	}
	for over := range out {
		for from := range out {
			for to := range out {
				out[from][to] = out[from][to] || out[from][over] && out[over][to]
			}
		}
	}
	return out
}

// useful returns for each state whether it is useful.
func (m Machine) useful() []bool {
	reach := reached(len(m.Ends), m.moves)
	out := make([]bool, len(m.Ends))
	for q := range out {
		for last, end := range m.Ends {
			out[q] = out[q] || reach[m.Start][q] && reach[q][last] && end.Final
		}
	}
	return out
}

// trimmed is m without the edges that no accepted run takes. The states keep their numbers.
func (m Machine) trimmed() Machine {
	useful := m.useful()
	out := Machine{Start: m.Start, Ends: m.Ends}
	for _, e := range m.Edges {
		if useful[e.From] && useful[e.To] {
			out.Edges = append(out.Edges, e)
		}
	}
	return out
}

// completed is m with one more state, which is not final: each letter leads to it that led nowhere before.
func (m Machine) completed() Machine {
	lost := len(m.Ends)
	out := Machine{m.Start, slices.Clone(m.Edges), append(slices.Clone(m.Ends), End{})}
	for q := range out.Ends {
		for _, letter := range []byte(inputLetters) {
			if !m.leads(q, letter) {
				out.Edges = append(out.Edges, Edge{From: q, Letter: letter, To: lost})
			}
		}
	}
	return out
}

// leads reports whether there is an edge from a state with a letter.
func (m Machine) leads(state int, letter byte) bool {
	for range m.from(state, letter) {
		return true
	}
	return false
}
