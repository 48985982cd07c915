package push

const (
	maxSteps = 1000         // of a run
	farthest = maxSteps + 2 // the mark of a state to which only more steps lead
	places   = maxStates + maxControls*len(letters)
)

// marks says of each state whether it is reached: 0 if not, otherwise one more than the fewest steps of the system that it takes (at most farthest). An acceptor that is given has 12 states at most, and After adds one for each head; one for just a configuration has 25.
type marks [places]int

// at is the marks of one state, without a step.
func at(state int) marks {
	var out marks
	out[state] = 1
	return out
}

// later is the marks after that many steps more.
func (m marks) later(steps int) marks {
	for q, mark := range m {
		if mark > 0 {
			m[q] = min(mark+steps, farthest)
		}
	}
	return m
}

// or is the marks of what is reached in one of two ways.
func (m marks) or(other marks) marks {
	for q, mark := range other {
		if mark > 0 && (m[q] == 0 || mark < m[q]) {
			m[q] = mark
		}
	}
	return m
}

// net is an acceptor, with the steps of the system that its moves stand for.
type net struct {
	states int
	moves  map[head]marks
	final  [places]bool
}

// netOf is the net of an acceptor: its moves stand for no steps.
func netOf(a Acceptor) *net {
	n := &net{states: a.States, moves: map[head]marks{}}
	for _, m := range a.Moves {
		n.join(head{m[0], letters[m[1]]}, at(m[2]))
	}
	for _, q := range a.Final {
		n.final[q] = true
	}
	return n
}

// acceptor is the acceptor of a net.
func (n *net) acceptor() Acceptor {
	a := Acceptor{States: n.states}
	for q := range n.states {
		for i, c := range letters {
			for to, mark := range n.moves[head{q, byte(c)}] {
				if mark > 0 {
					a.Moves = append(a.Moves, [3]int{q, i, to})
				}
			}
		}
		if n.final[q] {
			a.Final = append(a.Final, q)
		}
	}
	return a
}

// join adds moves, and returns whether that changes anything.
func (n *net) join(h head, to marks) bool {
	old := n.moves[h]
	joined := old.or(to)
	n.moves[h] = joined
	return joined != old
}

// step is the marks after a letter is read.
func (n *net) step(from marks, letter byte) marks {
	var out marks
	for q, mark := range from {
		if mark > 0 {
			out = out.or(n.moves[head{q, letter}].later(mark - 1))
		}
	}
	return out
}

// read is the marks after a word is read.
func (n *net) read(from marks, word string) marks {
	for _, c := range word {
		from = n.step(from, byte(c))
	}
	return from
}

// mark is 0 if a configuration is not accepted, otherwise one more than the fewest steps that it takes.
func (n *net) mark(c Config) int {
	least := 0
	for q, mark := range n.read(at(c.Control), c.Stack) {
		if n.final[q] && mark > 0 && (least == 0 || mark < least) {
			least = mark
		}
	}
	return least
}

// before is the net of the predecessors of an acceptor: where the net reads what a rule puts, it gets a move for its head, until there is none to add. Since no move of the acceptor leads to a control, what has come to a control then has emptied the stack so far.
func before(s System, a Acceptor) *net {
	n := netOf(a)
	for n.addBefore(s) {
	}
	return n
}

func (n *net) addBefore(s System) bool {
	changed := false
	for _, r := range s.Rules {
		if n.join(r.head(), n.read(at(r.To), r.Put).later(1)) {
			changed = true
		}
	}
	return changed
}

// after is the net of the successors of an acceptor: where the net reads the head of a rule, it gets moves for what the rule puts, until there is none to add. Between two letters that a rule puts there is a state for its control To and the first of them.
func after(s System, a Acceptor) *net {
	n := netOf(a)
	n.states += s.Controls * len(letters)
	for n.addAfter(s, a.States) {
	}
	return n
}

func (n *net) addAfter(s System, between int) bool {
	changed := false
	for _, r := range s.Rules {
		to := n.moves[r.head()]
		if to != (marks{}) && n.put(r, to, between+r.To*len(letters)) {
			changed = true
		}
	}
	return changed
}

// put adds moves for what a rule puts, from its control To to some states, and returns whether that changes anything. The states between are numbered from the one for the letter a on.
func (n *net) put(r Rule, to marks, between int) bool {
	switch len(r.Put) {
	case 0:
		return n.imitate(r.To, to)
	case 1:
		return n.join(head{r.To, r.Put[0]}, to)
	}
	middle := between + int(r.Put[0]-'a')
	first := n.join(head{r.To, r.Put[0]}, at(middle))
	second := n.join(head{middle, r.Put[1]}, to)
	return first || second
}

// imitate gives a control what some states have, as if it could be in one of them without reading, and returns whether that changes anything.
func (n *net) imitate(control int, states marks) bool {
	changed := false
	for _, c := range letters {
		if n.join(head{control, byte(c)}, n.step(states, byte(c))) {
			changed = true
		}
	}
	for q, mark := range states {
		if mark > 0 && n.final[q] && !n.final[control] {
			n.final[control] = true
			changed = true
		}
	}
	return changed
}
