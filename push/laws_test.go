package push_test

import (
	"fmt"
	"math/rand"
	"reflect"
	"strings"
	"testing"

	"squeegee/api"
	"squeegee/push"
)

// someGiven are hardly ever what may be given.
func someGiven(random *rand.Rand) given {
	number := func() int { return random.Intn(9) - 2 }
	word := func() string { return strings.Repeat("\x00`af\xff", 5)[random.Intn(13):][:random.Intn(8)] }
	g := given{s: push.System{Controls: number()}, a: push.Acceptor{States: number() * 3}}
	for range random.Intn(4) {
		g.s.Rules = append(g.s.Rules, push.Rule{From: number(), Top: byte(random.Intn(256)), To: number(), Put: word()})
		g.a.Moves = append(g.a.Moves, [3]int{number(), number(), number()})
		g.a.Final = append(g.a.Final, number())
	}
	g.c, g.d = push.Config{Control: number(), Stack: word()}, push.Config{Control: number(), Stack: word()}
	return g
}

// someGood are what may be given.
func someGood(random *rand.Rand) given {
	s := someSystem(random, 1+random.Intn(5), 1+random.Intn(5), 30)
	return given{s, someAcceptor(random, s, 5, random.Intn(8), 100), someConfig(random, s.Controls, 5, 20), someConfig(random, s.Controls, 5, 20)}
}

// allCalls are all calls but IsRun.
func allCalls(g given) map[string]func() (result, api.Errno) {
	out := systemCalls(g)
	for name, call := range acceptorCalls(g) {
		out[name] = call
	}
	for name, call := range configCalls(g) {
		out[name] = call
	}
	out["Accepts"] = func() (result, api.Errno) { return acceptsCall(g) }
	return out
}

// P1, R2, R7: no call panics, whatever it is given, and all of them say the same when they are asked again.
func TestAnyData(t *testing.T) {
	random := rand.New(rand.NewSource(64))
	for i := range 2000 {
		g := someGiven(random)
		if i%4 == 0 {
			good := someGood(random)
			g.s = good.s
			if i%8 == 0 {
				g = good
			}
		}
		for name, call := range allCalls(g) {
			x, e := call()
			y, f := call()
			if !reflect.DeepEqual(x, y) || e != f || (e == api.ErrSystem) != (push.Check(g.s) != api.OK) || i%8 == 0 && e != api.OK && e != api.ErrLarge {
				t.Fatalf("%s of %v: %v, %d and %v, %d", name, g, x, e, y, f)
			}
			if e != api.OK && !x.isZero() {
				t.Fatalf("%s of %v: %v, %d", name, g, x, e)
			}
		}
		run := []int{random.Intn(40) - 5, random.Intn(40) - 5}
		if push.IsRun(g.s, g.c, g.d, run) != push.IsRun(g.s, g.c, g.d, run) {
			t.Fatalf("IsRun of %v", g)
		}
	}
}

// P1: very long arguments are refused.
func TestLongData(t *testing.T) {
	long := strings.Repeat("a", 1000000)
	for what, g := range map[string]given{
		"rules": {s: push.System{Controls: 1, Rules: make([]push.Rule, 1000000)}},
		"put":   {s: system(1, "0a0"+long)},
	} {
		refusedAll(t, what, api.ErrSystem, allCalls(g))
	}
	for what, a := range map[string]push.Acceptor{
		"moves": {States: 12, Moves: make([][3]int, 1000000)},
		"final": {States: 12, Final: make([]int, 1000000)},
	} {
		refusedAll(t, what, api.ErrArg, acceptorCalls(given{s: first(), a: a}))
	}
	refusedAll(t, "a stack", api.ErrWord, configCalls(given{s: first(), c: config("0" + long)}))
	if push.IsRun(growing(), config("0a"), config("0a"), make([]int, 1000000)) {
		t.Error("a long run")
	}
}

// R4: arguments are not changed, nor what lies beyond their lengths; and results are new memory.
func TestMemory(t *testing.T) {
	random := rand.New(rand.NewSource(65))
	for range 300 {
		g := someGood(random)
		rules, moves, final := append(g.s.Rules, push.Rule{Put: "kept"}), append(g.a.Moves, [3]int{7, 8, 9}), append(g.a.Final, 99)
		g.s.Rules, g.a.Moves, g.a.Final = rules[:len(rules)-1], moves[:len(moves)-1], final[:len(final)-1]
		was := fmt.Sprint(rules, moves, final)
		for _, call := range allCalls(g) {
			call()
		}
		push.IsRun(g.s, g.c, g.d, []int{0, 1, 2})
		if fmt.Sprint(rules, moves, final) != was {
			t.Fatalf("%s became %v, %v, %v", was, rules, moves, final)
		}
	}
}

// R4: results share memory with nothing.
func TestResults(t *testing.T) {
	s, a := system(2, "0a1"), acceptor(3, "0a2 1b2", 1, 2)
	earlier, later := before(t, s, a), after(t, s, a)
	run, _, _ := push.Run(s, config("0a"), config("1"))
	list, _ := push.Next(s, config("0a"))
	earlier.Moves[0], earlier.Final[0], later.Moves[0], later.Final[0], run[0], list[0] = [3]int{9, 9, 9}, 9, [3]int{9, 9, 9}, 9, 9, config("9")
	if fmt.Sprint(s, a) != fmt.Sprint(system(2, "0a1"), acceptor(3, "0a2 1b2", 1, 2)) {
		t.Errorf("a result shares memory with its argument: %v, %v", s, a)
	}
	for _, out := range []push.Acceptor{before(t, s, a), after(t, s, a)} {
		if out.Moves[0][0] == 9 || out.Final[0] == 9 {
			t.Errorf("results share memory: %v", out)
		}
	}
	again, _, _ := push.Run(s, config("0a"), config("1"))
	more, _ := push.Next(s, config("0a"))
	if again[0] != 0 || more[0] != config("1") {
		t.Errorf("results share memory: %v, %v", again, more)
	}
}
