package regex

import (
	"slices"
	"strings"
)

const (
	alphabet    = "abc"
	letterCount = len(alphabet)
	maxStates   = 200 // of a language
)

// letters visits the letters, with their numbers.
func letters(yield func(int, string) bool) {
	for i := range letterCount {
		if !yield(i, alphabet[i:i+1]) {
			return
		}
	}
}

// table is a language: its states in their order, state 0 being the language itself.
type table struct {
	ends []bool // whether the empty word is in the state
	next [][letterCount]int
}

// flipped is the table of all other words. It shares the numbers of the states with t.
func (t table) flipped() table {
	out := table{next: t.next}
	for _, end := range t.ends {
		out.ends = append(out.ends, !end)
	}
	return out
}

// after is the number of the derivative by a word.
func (t table) after(word string) int {
	at := 0
	for _, c := range word {
		at = t.next[at][strings.IndexRune(alphabet, c)]
	}
	return at
}

// count is the number of words with that length.
func (t table) count(length int) int64 {
	ways := make([]int64, len(t.ends))
	ways[0] = 1
	for range length {
		longer := make([]int64, len(t.ends))
		for q, row := range t.next {
			for _, to := range row {
				longer[to] += ways[q]
			}
		}
		ways = longer
	}
	sum := int64(0)
	for q, end := range t.ends {
		if end {
			sum += ways[q]
		}
	}
	return sum
}

// finite reports whether there are finitely many words: a word that has at least as many letters as there are states goes through one of them twice, so it can be made longer for ever; and shorter, until it has less than twice as many letters.
func (t table) finite() bool {
	size := len(t.ends)
	has := slices.Clone(t.ends) // for each state whether it has a word of that length
	for length := range 2 * size {
		if length >= size && has[0] {
			return false
		}
		longer := make([]bool, size)
		for q, row := range t.next {
			for _, to := range row {
				longer[q] = longer[q] || has[to]
			}
		}
		has = longer
	}
	return true
}

// words lists the words of at most that length.
func (t table) words(most int) []string {
	type start struct {
		word string
		at   int
	}
	var out []string
	starts := []start{{}}
	for range most + 1 {
		var longer []start
		for _, s := range starts {
			if t.ends[s.at] {
				out = append(out, s.word)
			}
			for i, letter := range letters {
				longer = append(longer, start{s.word + letter, t.next[s.at][i]})
			}
		}
		starts = longer
	}
	return out
}

// firstWord returns the first word that is wanted, and whether there is one: wanted is asked whether a word will do that is in s, or is not, and in t, or is not.
func firstWord(s, t table, wanted func(inS, inT bool) bool) (string, bool) {
	type pair struct{ inS, inT int }
	type stop struct {
		pair
		from   int // the index of the stop before it
		letter string
	}
	stops := []stop{{}}
	seen := map[pair]bool{{}: true}
	last := 0
search:
	for ; ; last++ {
		switch {
		case last == len(stops):
			return "", false
		case wanted(s.ends[stops[last].inS], t.ends[stops[last].inT]):
			break search
		}
		for i, letter := range letters {
			to := pair{s.next[stops[last].inS][i], t.next[stops[last].inT][i]}
			if !seen[to] {
				seen[to] = true
				stops = append(stops, stop{to, last, letter})
			}
		}
	}
	var backwards []string
	for ; last > 0; last = stops[last].from {
		backwards = append(backwards, stops[last].letter)
	}
	slices.Reverse(backwards)
	return strings.Join(backwards, ""), true
}
