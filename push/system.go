package push

import (
	"iter"
	"slices"
)

const (
	letters     = "abcde"
	maxControls = 5
	maxRules    = 30
	maxPut      = 2   // letters that a rule puts
	maxStack    = 20  // letters of a stack that is given
	maxStates   = 12  // of an acceptor that is given
	maxMoves    = 100 // of an acceptor that is given
)

// isWord reports whether s consists of at most that many letters.
func isWord(s string, most int) bool {
	if len(s) > most {
		return false
	}
	for _, c := range s {
		if c < 'a' || c > 'e' {
			return false
		}
	}
	return true
}

// isBelow reports whether i is from 0 to limit - 1.
func isBelow(i, limit int) bool {
	return i >= 0 && i < limit
}

// isValid reports whether s is a system as the chapter defines it; all else relies on that.
func (s System) isValid() bool {
	if s.Controls < 1 || s.Controls > maxControls || len(s.Rules) > maxRules {
		return false
	}
	for i, r := range s.Rules {
		if !s.isRule(r) || slices.Contains(s.Rules[:i], r) {
			return false
		}
	}
	return true
}

func (s System) isRule(r Rule) bool {
	return isBelow(r.From, s.Controls) && r.Top >= 'a' && r.Top <= 'e' && isBelow(r.To, s.Controls) && isWord(r.Put, maxPut)
}

// isAcceptor reports whether a is an acceptor that may be given to a function with s.
func (s System) isAcceptor(a Acceptor) bool {
	if a.States < s.Controls || a.States > maxStates || len(a.Moves) > maxMoves {
		return false
	}
	for i, m := range a.Moves {
		if !isBelow(m[0], a.States) || !isBelow(m[1], len(letters)) || !isBelow(m[2], a.States) || m[2] < s.Controls {
			return false
		}
		if i > 0 && slices.Compare(a.Moves[i-1][:], m[:]) >= 0 {
			return false
		}
	}
	for i, q := range a.Final {
		if !isBelow(q, a.States) || i > 0 && a.Final[i-1] >= q {
			return false
		}
	}
	return true
}

// isConfig reports whether c is a configuration that may be given to a function with s.
func (s System) isConfig(c Config) bool {
	return isBelow(c.Control, s.Controls) && isWord(c.Stack, maxStack)
}

// head is a state, often a control, and a letter that is read there.
type head struct {
	state  int
	letter byte
}

// head is where the rules of a configuration begin. Its stack is not empty.
func (c Config) head() head {
	return head{c.Control, c.Stack[0]}
}

func (r Rule) head() head {
	return head{r.From, r.Top}
}

// step is the configuration after a step from one that has the head of the rule.
func (r Rule) step(c Config) Config {
	return Config{r.To, r.Put + c.Stack[1:]}
}

// heads yields each control with each letter.
func (s System) heads(yield func(head) bool) {
	for control := range s.Controls {
		for _, c := range letters {
			if !yield(head{control, byte(c)}) {
				return
			}
		}
	}
}

// rules yields the rules of a head with their indices.
func (s System) rules(h head) iter.Seq2[int, Rule] {
	return func(yield func(int, Rule) bool) {
		for i, r := range s.Rules {
			if r.head() == h && !yield(i, r) {
				return
			}
		}
	}
}

// just is an acceptor that accepts one configuration only. It may have more states than one that is given.
func (s System) just(c Config) Acceptor {
	a := Acceptor{States: s.Controls}
	state := c.Control
	for _, letter := range c.Stack {
		a.Moves = append(a.Moves, [3]int{state, int(letter - 'a'), a.States})
		state = a.States
		a.States++
	}
	a.Final = []int{state}
	return a
}
