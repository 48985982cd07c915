package trans

import (
	"iter"
	"strings"
)

// delay is what is left of two output words after their longest common beginning.
type delay struct{ left, right string }

func delayOf(left, right string) delay {
	c := len(common(left, right))
	return delay{left[c:], right[c:]}
}

// common is the longest common beginning of some words.
func common(words ...string) string {
	if len(words) == 0 {
		return ""
	}
	out := words[0]
	for _, w := range words {
		for !strings.HasPrefix(w, out) {
			out = out[:len(out)-1]
		}
	}
	return out
}

// pair is where two runs of one word are.
type pair struct{ left, right int }

// runs are two runs of one word: where they are, and the delay of what they have written.
type runs struct {
	at    pair
	delay delay
}

// after is the two runs, longer by an edge each.
func (r runs) after(e, f Edge) runs {
	return runs{pair{e.To, f.To}, delayOf(r.delay.left+e.Output, r.delay.right+f.Output)}
}

// steps yields the edges, one of m and one of n, with which two runs of one word can go on, by their letters.
func steps(m, n Machine, at pair) iter.Seq2[Edge, Edge] {
	return func(yield func(Edge, Edge) bool) {
		for e := range m.fromAny(at.left) {
			for f := range n.from(at.right, e.Letter) {
				if !yield(e, f) {
					return
				}
			}
		}
	}
}

// maxDelays is how many delays of a pair of states the search for a word goes on from. Two are enough: what comes after a pair makes the outputs the same for one delay at most, so whatever shows a difference after a third delay shows it after one of the first two, too.
const maxDelays = 2

// search looks at longer and longer words, for one with two runs that are wanted. It returns a word that is as short as can be; and the first of these in alphabetical order, if no word leads to two pairs of states.
func search(m, n Machine, wanted func(runs) bool) (string, bool) {
	type visit struct {
		runs runs
		word string
	}
	way := []visit{{runs: runs{at: pair{m.Start, n.Start}}}}
	seen := map[runs]bool{way[0].runs: true}
	count := map[pair]int{way[0].runs.at: 1}
	for i := 0; i < len(way); i++ {
		here := way[i]
		if wanted(here.runs) {
			return here.word, true
		}
		for e, f := range steps(m, n, here.runs.at) {
			next := here.runs.after(e, f)
			if !seen[next] && count[next.at] < maxDelays {
				seen[next] = true
				count[next.at]++
				way = append(way, visit{next, here.word + string(rune(e.Letter))})
			}
		}
	}
	return "", false
}

// endApart reports whether two runs, accepted with these ends, have different outputs.
func (r runs) endApart(left, right End) bool {
	return r.delay.left+left.After != r.delay.right+right.After
}

// ambiguous returns a word with more than one output, as short as can be, and whether there is one. It has at most 49 letters: at most 25 lead to a pair of states with a second delay, or to one whose ends write different words, and 24 on to the ends.
func (m Machine) ambiguous() (string, bool) {
	return search(m, m, func(r runs) bool {
		left, right := m.Ends[r.at.left], m.Ends[r.at.right]
		return left.Final && right.Final && r.endApart(left, right)
	})
}

// difference returns the first word of which two sequential machines have different outputs, or only one of them has one, and whether there is such a word.
func difference(m, n Machine) (string, bool) {
	m, n = m.completed(), n.completed()
	return search(m, n, func(r runs) bool {
		left, right := m.Ends[r.at.left], n.Ends[r.at.right]
		return left.Final != right.Final || left.Final && r.endApart(left, right)
	})
}
