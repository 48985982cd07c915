package push_test

import (
	"fmt"
	"math/rand"
	"reflect"
	"slices"
	"strings"
	"testing"

	"squeegee/api"
	"squeegee/push"
)

const letters = "abcde"

// system reads rules: From, Top, To, Put.
func system(controls int, rules string) push.System {
	s := push.System{Controls: controls}
	for _, r := range strings.Fields(rules) {
		s.Rules = append(s.Rules, push.Rule{From: int(r[0] - '0'), Top: r[1], To: int(r[2] - '0'), Put: r[3:]})
	}
	return s
}

// config reads a control and a stack.
func config(s string) push.Config {
	return push.Config{Control: int(s[0] - '0'), Stack: s[1:]}
}

// acceptor reads moves: from, a letter, to.
func acceptor(states int, moves string, final ...int) push.Acceptor {
	a := push.Acceptor{States: states, Final: final}
	for _, m := range strings.Fields(moves) {
		a.Moves = append(a.Moves, [3]int{int(m[0] - '0'), int(m[1] - 'a'), int(m[2] - '0')})
	}
	return a
}

// just accepts one configuration only.
func just(s push.System, c push.Config) push.Acceptor {
	a := push.Acceptor{States: s.Controls}
	at := c.Control
	for i := range len(c.Stack) {
		a.Moves = append(a.Moves, [3]int{at, int(c.Stack[i] - 'a'), a.States})
		at = a.States
		a.States++
	}
	a.Final = []int{at}
	return a
}

// first, growing and twice are the systems of the chapter's examples.
func first() push.System { return system(1, "0a0bb 0b0") }

func growing() push.System { return system(1, "0a0aa") }

func twice() push.System { return system(2, "0a1 1b0a") }

// some is a word of the first letters, of at most that length.
func some(random *rand.Rand, kinds, most int) string {
	out := ""
	for range random.Intn(most + 1) {
		out += letters[random.Intn(kinds):][:1]
	}
	return out
}

// someSystem has any rules.
func someSystem(random *rand.Rand, controls, kinds, most int) push.System {
	s := push.System{Controls: controls}
	for range random.Intn(most + 1) {
		r := push.Rule{From: random.Intn(controls), Top: letters[random.Intn(kinds)], To: random.Intn(controls), Put: some(random, kinds, 2)}
		if !slices.Contains(s.Rules, r) {
			s.Rules = append(s.Rules, r)
		}
	}
	return s
}

// someFinite has rules that put two letters only if both are later ones, and one only if it is not an earlier one: it leads to finitely many configurations.
func someFinite(random *rand.Rand, controls, kinds, most int) push.System {
	s := someSystem(random, controls, kinds, most)
	s.Rules = slices.DeleteFunc(s.Rules, func(r push.Rule) bool {
		return len(r.Put) == 1 && r.Put[0] < r.Top || len(r.Put) == 2 && (r.Put[0] <= r.Top || r.Put[1] <= r.Top)
	})
	return s
}

// someAcceptor has any moves that do not lead to controls.
func someAcceptor(random *rand.Rand, s push.System, kinds, more, most int) push.Acceptor {
	a := push.Acceptor{States: s.Controls + more}
	for range random.Intn(most + 1) {
		if more > 0 {
			a.Moves = append(a.Moves, [3]int{random.Intn(a.States), random.Intn(kinds), s.Controls + random.Intn(more)})
		}
	}
	slices.SortFunc(a.Moves, func(x, y [3]int) int { return slices.Compare(x[:], y[:]) })
	a.Moves = slices.Compact(a.Moves)
	for q := range a.States {
		if random.Intn(4) == 0 {
			a.Final = append(a.Final, q)
		}
	}
	return a
}

func someConfig(random *rand.Rand, controls, kinds, most int) push.Config {
	return push.Config{Control: random.Intn(controls), Stack: some(random, kinds, most)}
}

// configs are all configurations with stacks of at most that length.
func configs(controls, kinds, most int) []push.Config {
	words := []string{""}
	for i := 0; i < len(words); i++ {
		for k := 0; k < kinds && len(words[i]) < most; k++ {
			words = append(words, words[i]+letters[k:k+1])
		}
	}
	var out []push.Config
	for control := range controls {
		for _, w := range words {
			out = append(out, push.Config{Control: control, Stack: w})
		}
	}
	return out
}

// step does a step by the definition, or returns false.
func step(r push.Rule, c push.Config) (push.Config, bool) {
	if r.From != c.Control || c.Stack == "" || c.Stack[0] != r.Top {
		return push.Config{}, false
	}
	return push.Config{Control: r.To, Stack: r.Put + c.Stack[1:]}, true
}

func steps(s push.System, c push.Config) []push.Config {
	var out []push.Config
	for _, r := range s.Rules {
		if d, ok := step(r, c); ok {
			out = append(out, d)
		}
	}
	return out
}

// leads reports whether these rules lead from c to d, by the definition.
func leads(s push.System, c, d push.Config, run []int) bool {
	for _, i := range run {
		next, ok := step(s.Rules[i], c)
		if !ok {
			return false
		}
		c = next
	}
	return c == d
}

// explore returns what is reached from c through stacks of at most that height, with the fewest steps to it, and whether that is all that is reached.
func explore(s push.System, c push.Config, height int) (map[push.Config]int, bool) {
	far := map[push.Config]int{c: 0}
	all := true
	for way := []push.Config{c}; len(way) > 0; way = way[1:] {
		for _, d := range steps(s, way[0]) {
			if len(d.Stack) > height {
				all = false
			} else if _, found := far[d]; !found {
				far[d] = far[way[0]] + 1
				way = append(way, d)
			}
		}
	}
	return far, all
}

// accepts reports whether any acceptor accepts c, by the definition.
func accepts(a push.Acceptor, c push.Config) bool {
	at := map[int]bool{c.Control: true}
	for i := range len(c.Stack) {
		next := map[int]bool{}
		for _, m := range a.Moves {
			if at[m[0]] && m[1] == int(c.Stack[i]-'a') {
				next[m[2]] = true
			}
		}
		at = next
	}
	return slices.ContainsFunc(a.Final, func(q int) bool { return at[q] })
}

// wellMade checks the form of an acceptor that was returned.
func wellMade(t *testing.T, s push.System, a push.Acceptor) {
	t.Helper()
	good := a.States >= s.Controls && a.States <= 200
	for i, m := range a.Moves {
		good = good && m[0] >= 0 && m[0] < a.States && m[1] >= 0 && m[1] < 5 && m[2] >= 0 && m[2] < a.States && (i == 0 || slices.Compare(a.Moves[i-1][:], m[:]) < 0)
	}
	for i, q := range a.Final {
		good = good && q >= 0 && q < a.States && (i == 0 || a.Final[i-1] < q)
	}
	if !good {
		t.Fatalf("%v: not an acceptor: %v", s, a)
	}
}

// before and after return what the package returns, and check its form.
func before(t *testing.T, s push.System, a push.Acceptor) push.Acceptor {
	t.Helper()
	out, e := push.Before(s, a)
	if e != api.OK {
		t.Fatalf("Before of %v, %v: %d", s, a, e)
	}
	wellMade(t, s, out)
	return out
}

func after(t *testing.T, s push.System, a push.Acceptor) push.Acceptor {
	t.Helper()
	out, e := push.After(s, a)
	if e != api.OK {
		t.Fatalf("After of %v, %v: %d", s, a, e)
	}
	wellMade(t, s, out)
	return out
}

func reaches(t *testing.T, s push.System, c, d push.Config) bool {
	t.Helper()
	out, e := push.Reaches(s, c, d)
	if e != api.OK {
		t.Fatalf("Reaches of %v, %v, %v: %d", s, c, d, e)
	}
	return out
}

// checkRun checks that Run says the same as Reaches, and its run; it returns that run, and the error.
func checkRun(t *testing.T, s push.System, c, d push.Config) ([]int, api.Errno) {
	t.Helper()
	run, found, e := push.Run(s, c, d)
	switch {
	case e == api.ErrLarge:
		if found || len(run) > 0 || !reaches(t, s, c, d) {
			t.Fatalf("Run of %v, %v, %v: %v, %v, %d", s, c, d, run, found, e)
		}
	case e != api.OK || found != reaches(t, s, c, d) || !found && len(run) > 0:
		t.Fatalf("Run of %v, %v, %v: %v, %v, %d", s, c, d, run, found, e)
	case found && (len(run) > 1000 || !leads(s, c, d, run) || !push.IsRun(s, c, d, run)):
		t.Fatalf("Run of %v, %v, %v: %v", s, c, d, run)
	}
	return run, e
}

// result is what a call returns beside its error.
type result []any

// given is what the calls are given.
type given struct {
	s    push.System
	a    push.Acceptor
	c, d push.Config
}

// the calls that take a system only, an acceptor and no configuration, or configurations.
func systemCalls(g given) map[string]func() (result, api.Errno) {
	return map[string]func() (result, api.Errno){
		"Check": func() (result, api.Errno) { return nil, push.Check(g.s) },
	}
}

func acceptorCalls(g given) map[string]func() (result, api.Errno) {
	return map[string]func() (result, api.Errno){
		"CheckAcceptor": func() (result, api.Errno) { return nil, push.CheckAcceptor(g.s, g.a) },
		"Before":        func() (result, api.Errno) { x, e := push.Before(g.s, g.a); return result{x}, e },
		"After":         func() (result, api.Errno) { x, e := push.After(g.s, g.a); return result{x}, e },
	}
}

func configCalls(g given) map[string]func() (result, api.Errno) {
	return map[string]func() (result, api.Errno){
		"Next":          func() (result, api.Errno) { x, e := push.Next(g.s, g.c); return result{x}, e },
		"Endless":       func() (result, api.Errno) { x, e := push.Endless(g.s, g.c); return result{x}, e },
		"Reaches":       func() (result, api.Errno) { x, e := push.Reaches(g.s, g.c, config("0")); return result{x}, e },
		"Reaches after": func() (result, api.Errno) { x, e := push.Reaches(g.s, config("0"), g.c); return result{x}, e },
		"Run":           func() (result, api.Errno) { x, y, e := push.Run(g.s, g.c, g.d); return result{x, y}, e },
		"Run after":     func() (result, api.Errno) { x, y, e := push.Run(g.s, config("0"), g.c); return result{x, y}, e },
	}
}

// acceptsCall takes all of them.
func acceptsCall(g given) (result, api.Errno) {
	x, e := push.Accepts(g.s, g.a, g.c)
	return result{x}, e
}

// isZero reports whether all of a result is zero values, or empty slices.
func (r result) isZero() bool {
	for _, x := range r {
		v := reflect.ValueOf(x)
		if !v.IsZero() && !(v.Kind() == reflect.Slice && v.Len() == 0) {
			return false
		}
	}
	return true
}

// refused checks that a call returned an error, and nothing else.
func refused(t *testing.T, what string, want api.Errno, call func() (result, api.Errno)) {
	t.Helper()
	r, e := call()
	if e != want || !r.isZero() {
		t.Errorf("%s: %s, error %d, not %d", what, fmt.Sprint(r...), e, want)
	}
}

// refusedAll checks that of some calls.
func refusedAll(t *testing.T, what string, want api.Errno, calls map[string]func() (result, api.Errno)) {
	t.Helper()
	for name, call := range calls {
		refused(t, name+" of "+what, want, call)
	}
}
