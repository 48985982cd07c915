package regex

import (
	"cmp"
	"slices"
)

// guess becomes the table of a net's language. To go through all the sets of states that a net can be in would sometimes take for ever, even if its table is small, or soon seen to be too large. So the sets are told apart by some words only, the samples; as long as a word shows that the table that these make is not that of the net, samples are added.
type guess struct {
	net     *net
	samples []numbers // for each sample the states of the net that accept it; without its first letter it is a sample, too
	known   map[string]bool
	accepts []numbers // for each state of the net the samples that it accepts
	strong  []int     // the states of the net, those that accept the most samples first
	table   table
	rows    []numbers // for each state of the table the samples that it accepts
}

// minimal returns the table of the language of the net, or false if it has more than maxStates states.
func (n *net) minimal() (table, bool) {
	g := &guess{net: n, known: map[string]bool{}, accepts: make([]numbers, len(n.next))}
	g.learn(n.ends)
	for g.fill() {
		if !g.learnFrom(g.tooMuch()) && !g.learnFrom(g.tooLittle()) {
			return g.table, true
		}
	}
	return table{}, false
}

// learn makes that word a sample which just these states accept.
func (g *guess) learn(states numbers) {
	if g.known[states.key()] {
		return
	}
	g.known[states.key()] = true
	sample := len(g.samples)
	g.samples = append(g.samples, states)
	for q := range g.accepts {
		if sample%64 == 0 {
			g.accepts[q] = append(g.accepts[q], 0)
		}
		if states.has(q) {
			g.accepts[q].add(sample)
		}
	}
}

// row is the set of samples that some states of the net accept.
func (g *guess) row(states numbers) numbers {
	out := noneBelow(len(g.samples))
	for q := range states.all() {
		out.include(g.accepts[q])
	}
	return out
}

// fill makes the table from the samples. It returns false if that has more than maxStates states: no two of them are the same derivative, so the language has as many at least.
func (g *guess) fill() bool {
	g.table, g.rows = table{}, nil
	var held []numbers // for each state of the table the states of the net after the first word that leads to it
	places := map[string]int{}
	place := func(states numbers) int {
		row := g.row(states)
		at, found := places[row.key()]
		if !found {
			at = len(held)
			places[row.key()] = at
			held = append(held, states)
			g.rows = append(g.rows, row)
			g.table.ends = append(g.table.ends, states.meets(g.net.ends))
		}
		return at
	}
	place(g.net.starts)
	for at := 0; at < len(held); at++ {
		if at == maxStates {
			return false
		}
		var next [letterCount]int
		for letter := range letters {
			next[letter] = place(g.net.after(held[at], letter))
		}
		g.table.next = append(g.table.next, next)
	}
	g.sortStates()
	return true
}

func (g *guess) sortStates() {
	g.strong = nil
	for q := range g.accepts {
		g.strong = append(g.strong, q)
	}
	slices.SortStableFunc(g.strong, func(p, q int) int {
		return cmp.Compare(g.accepts[q].count(), g.accepts[p].count())
	})
}

// look is told to which state of the table and to which states of the net a word leads. It returns from which of the latter to go on (nil: not at all), and the samples that the word must not be followed by if the table is right.
type look func(at int, states numbers) (numbers, numbers)

// visit is what a word leads to: a state of the table, and states of the net.
type visit struct {
	from, letter int // the last letter, and the visit before it; -1 before the first one
	at           int
	states       numbers
}

// learnFrom looks at longer and longer words. If a sample must not follow one of them, it learns from that, and returns true. What it learns first, the last letter with that sample, is new: had it been a sample, it would have been refused one letter before.
func (g *guess) learnFrom(l look) bool {
	states, _ := l(0, g.net.starts)
	way := []visit{{from: -1, states: states}}
	for i := 0; i < len(way); i++ {
		for letter := range letters {
			at := g.table.next[way[i].at][letter]
			states, wrong := l(at, g.net.after(way[i].states, letter))
			v := visit{i, letter, at, states}
			if sample, found := wrong.first(); found {
				g.learnBack(way, v, g.samples[sample])
				return true
			}
			if states != nil {
				way = append(way, v)
			}
		}
	}
	return false
}

// learnBack makes samples of the one that the given states accept, with more and more of the letters on the way to v before it.
func (g *guess) learnBack(way []visit, v visit, states numbers) {
	for ; v.from >= 0; v = way[v.from] {
		states = g.net.before(states, v.letter)
		g.learn(states)
	}
}

// tooMuch looks for words that the table accepts and the net does not. It goes on from no more states of the net than it takes to accept the samples that the table accepts. If these are too few, more samples make them more; if they will do, then so will any set with them in it.
func (g *guess) tooMuch() look {
	kept := make([][]numbers, len(g.rows))
	return func(at int, states numbers) (numbers, numbers) {
		if slices.ContainsFunc(kept[at], func(k numbers) bool { return k.within(states) }) {
			return nil, nil
		}
		enough, missing := g.enough(states, g.rows[at])
		kept[at] = append(kept[at], enough)
		return enough, missing
	}
}

// enough chooses a few of the states that together accept the samples, and returns them and the samples that none of the states accepts. The strong ones come first: the fewer are chosen, the fewer choices there are.
func (g *guess) enough(states, samples numbers) (numbers, numbers) {
	chosen, missing := noneBelow(len(g.accepts)), slices.Clone(samples)
	for _, q := range g.strong {
		if states.has(q) && missing.meets(g.accepts[q]) {
			chosen.add(q)
			missing.exclude(g.accepts[q])
		}
	}
	return chosen, missing
}

// tooLittle looks for words that the net accepts and the table does not. For that no state of the net needs another one, so each is looked at just once for each state of the table.
func (g *guess) tooLittle() look {
	seen := make([]numbers, len(g.rows))
	for at := range seen {
		seen[at] = noneBelow(len(g.accepts))
	}
	return func(at int, states numbers) (numbers, numbers) {
		if states.within(seen[at]) {
			return nil, nil
		}
		fresh := slices.Clone(states)
		fresh.exclude(seen[at])
		seen[at].include(fresh)
		more := g.row(fresh)
		more.exclude(g.rows[at])
		return fresh, more
	}
}
