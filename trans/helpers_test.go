package trans_test

import (
	"maps"
	"math/rand"
	"reflect"
	"slices"
	"strconv"
	"strings"
	"testing"

	"squeegee/api"
	"squeegee/trans"
)

// machine reads a machine: for each state an end, which is - (not final), . (final, After empty) or After; and edges: the state, the letter, the output, the next state.
func machine(start int, ends string, edges ...string) trans.Machine {
	m := trans.Machine{Start: start}
	for _, s := range strings.Fields(ends) {
		m.Ends = append(m.Ends, trans.End{Final: s != "-", After: strings.Trim(s, "-.")})
	}
	for _, s := range edges {
		last := len(s) - 1
		m.Edges = append(m.Edges, trans.Edge{From: int(s[0] - '0'), Letter: s[1], Output: s[2:last], To: int(s[last] - '0')})
	}
	return m
}

// edges reads several edges.
func edges(s string) []string {
	return strings.Fields(s)
}

// show writes a machine as machine reads it.
func show(m trans.Machine) string {
	out := strconv.Itoa(m.Start) + ":"
	for _, end := range m.Ends {
		if !end.Final {
			out += " -"
		} else if end.After == "" {
			out += " ."
		} else {
			out += " " + end.After
		}
	}
	for _, e := range m.Edges {
		out += ", " + strconv.Itoa(e.From) + string(rune(e.Letter)) + e.Output + strconv.Itoa(e.To)
	}
	return out
}

// sorted puts edges into their order, each once.
func sorted(list []trans.Edge) []trans.Edge {
	slices.SortFunc(list, func(e, f trans.Edge) int {
		key := func(e trans.Edge) string {
			return strconv.Itoa(e.From) + string(rune(e.Letter)) + strconv.Itoa(e.To) + " " + e.Output
		}
		return strings.Compare(key(e), key(f))
	})
	return slices.Compact(list)
}

// some is a word of at most that many of the letters.
func some(random *rand.Rand, letters string, most int) string {
	out := ""
	for range random.Intn(most + 1) {
		out += string(letters[random.Intn(len(letters))])
	}
	return out
}

// someMachine has any edges and ends.
func someMachine(random *rand.Rand, states, most int, written int) trans.Machine {
	m := trans.Machine{Start: random.Intn(states)}
	for range random.Intn(most + 1) {
		m.Edges = append(m.Edges, trans.Edge{From: random.Intn(states), Letter: "ab"[random.Intn(2)], Output: some(random, "xy", written), To: random.Intn(states)})
	}
	m.Edges = sorted(m.Edges)
	m.Ends = someEnds(random, states, written)
	return m
}

func someEnds(random *rand.Rand, states, written int) []trans.End {
	var out []trans.End
	for range states {
		end := trans.End{Final: random.Intn(2) == 0}
		if end.Final {
			end.After = some(random, "xy", written)
		}
		out = append(out, end)
	}
	return out
}

// someSequential has at most one edge for each state and letter.
func someSequential(random *rand.Rand, states, written int) trans.Machine {
	m := trans.Machine{Start: random.Intn(states), Ends: someEnds(random, states, written)}
	for q := range states {
		for _, c := range "ab" {
			if random.Intn(6) > 0 {
				m.Edges = append(m.Edges, trans.Edge{From: q, Letter: byte(c), Output: some(random, "xy", written), To: random.Intn(states)})
			}
		}
	}
	return m
}

// someFunctional writes as many x for each letter, wherever it goes, but more or fewer of them ahead in each state; or the same word for each letter.
func someFunctional(random *rand.Rand, states, most int) trans.Machine {
	m := trans.Machine{Ends: someEnds(random, states, 0)}
	words := map[byte]string{'a': some(random, "xy", 2), 'b': some(random, "xy", 2)}
	ahead := make([]int, states)
	if random.Intn(2) == 0 {
		words = map[byte]string{'a': "x", 'b': "x"}
		for q := range ahead {
			ahead[q] = random.Intn(2)
		}
		ahead[0] = 0
	}
	for q := range m.Ends {
		if m.Ends[q].Final {
			m.Ends[q].After = strings.Repeat("x", 1-ahead[q])
		}
	}
	for range random.Intn(most + 1) {
		from, letter, to := random.Intn(states), "ab"[random.Intn(2)], random.Intn(states)
		word := words[letter]
		if lead := ahead[to] - ahead[from]; lead > 0 {
			word += "x"
		} else if lead < 0 {
			word = word[1:]
		}
		m.Edges = append(m.Edges, trans.Edge{From: from, Letter: letter, Output: word, To: to})
	}
	m.Edges = sorted(m.Edges)
	return m
}

// ran is where a run is, and what it has written.
type ran struct {
	state  int
	output string
}

// step is all runs, longer by a letter.
func step(m trans.Machine, list map[ran]bool, letter byte) map[ran]bool {
	out := map[ran]bool{}
	for r := range list {
		for _, e := range m.Edges {
			if e.From == r.state && e.Letter == letter {
				out[ran{e.To, r.output + e.Output}] = true
			}
		}
	}
	return out
}

// outputs are those of a word, by the definition: all runs are followed.
func outputs(m trans.Machine, w string) []string {
	list := map[ran]bool{{m.Start, ""}: true}
	for i := range len(w) {
		list = step(m, list, w[i])
	}
	all := map[string]bool{}
	for r := range list {
		if m.Ends[r.state].Final {
			all[r.output+m.Ends[r.state].After] = true
		}
	}
	return slices.Sorted(maps.Keys(all))
}

// output is that of a sequential machine, and whether it has one.
func output(m trans.Machine, w string) (string, bool) {
	list := outputs(m, w)
	if len(list) == 0 {
		return "", false
	}
	return list[0], true
}

// words are all input words of at most that length, by length and then in alphabetical order.
func words(most int) []string {
	out := []string{""}
	for i := 0; len(out[i]) < most; i++ {
		out = append(out, out[i]+"a", out[i]+"b")
	}
	return out
}

// result is what a call returns beside its error.
type result []any

// calls are all calls that take a machine.
func calls(m trans.Machine) map[string]func() (result, api.Errno) {
	return map[string]func() (result, api.Errno){
		"Check":      func() (result, api.Errno) { return nil, trans.Check(m) },
		"Outputs":    func() (result, api.Errno) { x, e := trans.Outputs(m, "ab"); return result{x}, e },
		"Useful":     func() (result, api.Errno) { x, e := trans.Useful(m); return result{x}, e },
		"Sequential": func() (result, api.Errno) { x, e := trans.Sequential(m); return result{x}, e },
		"Functional": func() (result, api.Errno) { x, y, e := trans.Functional(m); return result{x, y}, e },
		"Twins":      func() (result, api.Errno) { x, e := trans.Twins(m); return result{x}, e },
		"Same":       func() (result, api.Errno) { x, y, e := trans.Same(m, plain()); return result{x, y}, e },
		"Same after": func() (result, api.Errno) { x, y, e := trans.Same(plain(), m); return result{x, y}, e },
		"First":      func() (result, api.Errno) { x, y, e := trans.First(m); return result{x, y}, e },
	}
}

// plain is the first example of the chapter, forked the second, twinless the third.
func plain() trans.Machine { return machine(0, ".", edges("0ax0 0by0")...) }

func forked() trans.Machine { return machine(0, ".", edges("0ax0 0ay0")...) }

func twinless() trans.Machine {
	return machine(0, "- - . .", edges("0ax1 0ay2 1ax1 1b3 2ay2")...)
}

// isZero reports whether all of a result is zero values, or empty slices.
func (r result) isZero() bool {
	for _, x := range r {
		v := reflect.ValueOf(x)
		if !v.IsZero() && !(v.Kind() == reflect.Slice && v.Len() == 0) {
			return false
		}
	}
	return true
}

// refused checks that a call of a machine returned an error, and nothing else.
func refused(t *testing.T, what string, want, got api.Errno, results ...any) {
	t.Helper()
	if got != want || !result(results).isZero() {
		t.Errorf("%s: %v, error %d, not %d", what, results, got, want)
	}
}
