package regex

import (
	"slices"
	"strings"
)

// piece is an expression that becomes part of a larger one. The zero value has no words.
type piece struct {
	text  string
	loose bool // whether it has more than one alternative
	whole bool // whether it is an atom and stars
}

// letterPiece is an expression for the word of one letter, emptyPiece one for the empty word.
func letterPiece(letter string) piece { return piece{text: letter, whole: true} }
func emptyPiece() piece               { return piece{text: "1", whole: true} }

// anyOf is an expression for the words of all the pieces.
func anyOf(list ...piece) piece {
	var out piece
	var texts []string
	for _, p := range list {
		if p.text != "" && !slices.Contains(texts, p.text) {
			texts = append(texts, p.text)
			out = p
		}
	}
	if len(texts) < 2 {
		return out
	}
	return piece{text: strings.Join(texts, "|"), loose: true}
}

// inOrder is an expression for words of p followed by words of q.
func inOrder(p, q piece) piece {
	switch {
	case p.text == "" || q.text == "":
		return piece{}
	case p == emptyPiece():
		return q
	case q == emptyPiece():
		return p
	}
	return piece{text: p.item() + q.item()}
}

// item is the text of p within items.
func (p piece) item() string {
	if p.loose {
		return "(" + p.text + ")"
	}
	return p.text
}

// anyTimes is an expression for any number of words of p.
func (p piece) anyTimes() piece {
	switch {
	case p.text == "" || p == emptyPiece():
		return emptyPiece()
	case p.whole:
		return piece{text: p.text + "*", whole: true}
	}
	return piece{text: "(" + p.text + ")*", whole: true}
}

// equations say what a language consists of: for each state the words that lead to each of the states, followed by a word of that state; and, as one element more, words without anything after them.
type equations [][]piece

// equationsOf are the equations of a table.
func equationsOf(t table) equations {
	size := len(t.ends)
	out := make(equations, size)
	for q, row := range t.next {
		out[q] = make([]piece, size+1)
		for i, letter := range letters {
			out[q][row[i]] = anyOf(out[q][row[i]], letterPiece(letter))
		}
		if t.ends[q] {
			out[q][size] = emptyPiece()
		}
	}
	return out
}

// solve writes the language of state q without using itself (Arden).
func (e equations) solve(q int) {
	loop := e[q][q].anyTimes()
	e[q][q] = piece{}
	for to, p := range e[q] {
		e[q][to] = inOrder(loop, p)
	}
}

// replace puts the language of state q, which is solved, into all others.
func (e equations) replace(q int) {
	for i, row := range e {
		way := row[q]
		if i == q || way.text == "" {
			continue
		}
		row[q] = piece{}
		for to, p := range e[q] {
			row[to] = anyOf(row[to], inOrder(way, p))
		}
	}
}

// cost is how many bytes it takes to put the language of state q into all others.
func (e equations) cost(q int) int {
	out := 0
	for i, row := range e {
		if i == q || row[q].text == "" {
			continue
		}
		for to, p := range e[q] {
			if to != q && p.text != "" {
				out += len(row[q].text) + len(e[q][q].text) + len(p.text)
			}
		}
	}
	return out
}

// expressed is an expression for the language of t, with letters, 0, 1, |, * and brackets only.
func expressed(t table) string {
	e := equationsOf(t)
	var left []int
	for q := 1; q < len(e); q++ {
		left = append(left, q)
	}
	for len(left) > 0 {
		cheapest := slices.MinFunc(left, func(p, q int) int { return e.cost(p) - e.cost(q) })
		left = slices.DeleteFunc(left, func(q int) bool { return q == cheapest })
		e.solve(cheapest)
		e.replace(cheapest)
	}
	e.solve(0)
	if out := e[0][len(e)].text; out != "" {
		return out
	}
	return "0"
}
