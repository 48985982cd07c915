package push

import "iter"

// path returns states through which a net reads a word, from one state to another, in the fewest steps. There are such states.
func (n *net) path(from int, word string, to int) []int {
	ways := []marks{at(from)}
	for i, c := range word {
		ways = append(ways, n.step(ways[i], byte(c)))
	}
	out := make([]int, len(word)+1)
	out[len(word)] = to
	for i := len(word) - 1; i >= 0; i-- {
		next := out[i+1]
		for q, mark := range ways[i] {
			move := n.moves[head{q, word[i]}][next]
			if mark > 0 && move > 0 && mark-1+move == ways[i+1][next] {
				out[i] = q
				break
			}
		}
	}
	return out
}

// run returns the rules of a run that a net of predecessors stands for when it reads c until it comes to a state; it has less than farthest steps. Each move that stands for steps stands for a rule and for the way on which the net reads what the rule puts.
func (s System) run(n *net, c Config, end int) []int {
	var out []int
	var follow func(from int, word string, to int)
	follow = func(from int, word string, to int) {
		path := n.path(from, word, to)
	moves:
		for i, letter := range word {
			h := head{path[i], byte(letter)}
			next := path[i+1]
			for k, r := range s.rules(h) {
				if n.read(at(r.To), r.Put).later(1)[next] == n.moves[h][next] {
					out = append(out, k)
					follow(r.To, r.Put, next)
					continue moves
				}
			}
		}
	}
	follow(c.Control, c.Stack, end)
	return out
}

// lasts reports whether some sequence of steps from c never ends. In such a sequence, what is below some letter of the stack is not touched any more, once it is at the top.
func (s System) lasts(c Config) bool {
	pops := before(s, Acceptor{States: s.Controls})
	lasting := s.lasting(pops)
	now := at(c.Control)
	for _, letter := range c.Stack {
		for q, mark := range now {
			if mark > 0 && lasting[head{q, byte(letter)}] {
				return true
			}
		}
		now = pops.step(now, byte(letter))
	}
	return false
}

// lasting is the set of heads from which some sequence of steps never ends: what is left of all heads when those that lead to none of the others are taken away.
func (s System) lasting(pops *net) map[head]bool {
	out := map[head]bool{}
	for h := range s.heads {
		out[h] = true
	}
	for changed := true; changed; {
		changed = false
		for h := range s.heads {
			if out[h] && !s.leads(h, pops, out) {
				delete(out, h)
				changed = true
			}
		}
	}
	return out
}

// leads reports whether a head leads to one of some heads.
func (s System) leads(h head, pops *net, heads map[head]bool) bool {
	for next := range s.onward(h, pops) {
		if heads[next] {
			return true
		}
	}
	return false
}

// onward yields the heads to which a head leads while nothing below its letter is touched. A net for the empty stacks says which letters can be taken away, and at which controls.
func (s System) onward(h head, pops *net) iter.Seq[head] {
	return func(yield func(head) bool) {
		for _, r := range s.rules(h) {
			if r.Put == "" {
				continue
			}
			first := head{r.To, r.Put[0]}
			if !yield(first) {
				return
			}
			for q, mark := range pops.moves[first] {
				if len(r.Put) == 2 && mark > 0 && !yield(head{q, r.Put[1]}) {
					return
				}
			}
		}
	}
}
