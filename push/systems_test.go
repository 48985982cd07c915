package push_test

import (
	"fmt"
	"math/rand"
	"slices"
	"strings"
	"testing"

	"squeegee/api"
	"squeegee/push"
)

// many is a system with that many rules, the last ones first.
func many(rules int) push.System {
	s := push.System{Controls: 5}
	for i := rules - 1; i >= 0; i-- {
		s.Rules = append(s.Rules, push.Rule{From: i % 5, Top: letters[i/5%5], To: i / 25, Put: "ab"})
	}
	return s
}

// P4.1: what a system is.
func TestCheck(t *testing.T) {
	for _, s := range []push.System{first(), growing(), twice(), system(1, ""), system(5, ""), system(5, "4e4ee 0a0"), system(1, "0a0 0a0a 0a0aa 0a0ab"), many(30)} {
		if e := push.Check(s); e != api.OK {
			t.Errorf("%v: %d", s, e)
		}
	}
	for _, s := range []push.System{
		{}, system(0, ""), system(6, ""), system(-1, ""), many(31), system(1, "1a0"), system(1, "0a1"), system(5, "5a0"), system(5, "0a5"),
		system(1, "0f0"), system(1, "0A0"), system(1, "0`0"), system(1, "0\x000"), system(1, "0\xff0"), system(1, "0a0f"), system(1, "0a0aA"), system(1, "0a0abc"), system(1, "0a0é"), system(1, "0a0\xff"), system(1, "0a0a\x00"),
		system(1, "0a0bb 0b0 0a0bb"), system(1, "0a0 0a0"), system(1, "0a0 0b0c 0f0"),
		{Controls: 1, Rules: []push.Rule{{From: -1, Top: 'a'}}}, {Controls: 1, Rules: []push.Rule{{Top: 'a', To: -1}}}, {Controls: 1, Rules: make([]push.Rule, 1)}, {Controls: 1 << 62}, {Controls: -1 << 63},
	} {
		if e := push.Check(s); e != api.ErrSystem {
			t.Errorf("%v: %d", s, e)
		}
	}
}

// full is an acceptor with as many moves, of one control and 11 states more.
func full(moves int) push.Acceptor {
	a := push.Acceptor{States: 12, Final: []int{0, 1, 2, 3, 4, 5, 6, 7, 8, 9, 10, 11}}
	for i := range moves {
		a.Moves = append(a.Moves, [3]int{i / 55, i / 11 % 5, 1 + i%11})
	}
	return a
}

// P4.1: what an acceptor is that may be given.
func TestCheckAcceptor(t *testing.T) {
	for _, x := range []struct {
		s push.System
		a push.Acceptor
	}{
		{first(), acceptor(1, "")}, {first(), acceptor(1, "", 0)}, {first(), acceptor(12, "", 11)}, {twice(), acceptor(2, "", 0, 1)}, {system(5, ""), acceptor(5, "")}, {first(), full(100)},
		{first(), acceptor(3, "0a1 0a2 0b1 0e2 1a1 1a2 2e1", 1, 2)}, {twice(), acceptor(3, "0a2 1a2 2a2", 0, 2)},
	} {
		if e := push.CheckAcceptor(x.s, x.a); e != api.OK {
			t.Errorf("%v, %v: %d", x.s, x.a, e)
		}
	}
	for _, x := range []struct {
		s push.System
		a push.Acceptor
	}{
		// states
		{first(), push.Acceptor{}}, {first(), acceptor(0, "")}, {twice(), acceptor(1, "")}, {first(), acceptor(13, "")}, {first(), acceptor(-1, "")}, {first(), acceptor(1<<62, "")},
		// moves: too many, of no states or letters, to controls, not rising
		{first(), full(101)}, {first(), acceptor(2, "2a1")}, {first(), acceptor(2, "0a2")}, {first(), acceptor(2, "0f1")}, {first(), acceptor(2, "0`1")}, {first(), acceptor(2, "/a1")}, {first(), acceptor(2, "0a/")},
		{first(), acceptor(2, "0a0")}, {first(), acceptor(2, "1a0")}, {twice(), acceptor(3, "0a1")}, {twice(), acceptor(3, "0a2 2a1")},
		{first(), acceptor(2, "0a1 0a1")}, {first(), acceptor(2, "1a1 0a1")}, {first(), acceptor(2, "0b1 0a1")}, {first(), acceptor(3, "0a2 0a1")}, {first(), acceptor(3, "0a1 0b1 0a2")},
		// final states
		{first(), acceptor(2, "", 2)}, {first(), acceptor(2, "", -1)}, {first(), acceptor(2, "", 0, 0)}, {first(), acceptor(2, "", 1, 0)}, {first(), acceptor(3, "", 0, 2, 1)},
	} {
		refusedAll(t, fmt.Sprint(x), api.ErrArg, acceptorCalls(given{s: x.s, a: x.a}))
	}
}

// P4.1: what configurations are that may be given.
func TestConfigs(t *testing.T) {
	for _, c := range []push.Config{config("0"), config("1"), config("0abcde"), config("1" + strings.Repeat("e", 20))} {
		g := given{twice(), acceptor(2, "", 0), c, config("0")}
		calls := configCalls(g)
		calls["Accepts"] = func() (result, api.Errno) { return acceptsCall(g) }
		for name, call := range calls {
			if _, e := call(); e != api.OK {
				t.Errorf("%s of %v: %d", name, c, e)
			}
		}
		if !push.IsRun(g.s, c, c, nil) {
			t.Errorf("IsRun of %v", c)
		}
	}
	for _, c := range []push.Config{{Control: 2}, {Control: -1}, {Control: 1 << 62}, {Control: -1 << 63}, config("2a"), config("0f"), config("0A"), config("0abcdeabcde\x00"), config("0é"), config("0\xff"), config("0 "), config("0" + strings.Repeat("e", 21))} {
		g := given{twice(), acceptor(2, "", 0), c, config("0")}
		refusedAll(t, fmt.Sprint(c), api.ErrWord, configCalls(g))
		refused(t, fmt.Sprint("Accepts of ", c), api.ErrWord, func() (result, api.Errno) { return acceptsCall(g) })
		if push.IsRun(g.s, c, c, nil) {
			t.Errorf("IsRun of %v", c)
		}
	}
}

// P4.1, R1: systems before acceptors before configurations.
func TestWhichError(t *testing.T) {
	bad := given{system(1, "0a0 0a0"), acceptor(0, ""), config("1"), config("0f")}
	refusedAll(t, "no system", api.ErrSystem, systemCalls(bad))
	refusedAll(t, "no system", api.ErrSystem, acceptorCalls(bad))
	refusedAll(t, "no system", api.ErrSystem, configCalls(bad))
	refused(t, "Accepts of no system", api.ErrSystem, func() (result, api.Errno) { return acceptsCall(bad) })
	if push.IsRun(bad.s, config("0"), config("0"), nil) {
		t.Error("IsRun of no system")
	}
	bad.s = first()
	refusedAll(t, "no acceptor", api.ErrArg, acceptorCalls(bad))
	refused(t, "Accepts of no acceptor", api.ErrArg, func() (result, api.Errno) { return acceptsCall(bad) })
	refusedAll(t, "no configuration", api.ErrWord, configCalls(bad))
	bad.a = acceptor(1, "", 0)
	refused(t, "Accepts of no configuration", api.ErrWord, func() (result, api.Errno) { return acceptsCall(bad) })
}

// P4.1: the configurations to which one step leads.
func TestNext(t *testing.T) {
	fork := system(3, "0a2ba 0b1 0a0 1a0 0a1e 0a0e")
	for _, x := range []struct {
		s    push.System
		c    string
		want string
	}{
		{first(), "0a", "[{0 bb}]"}, {first(), "0ba", "[{0 a}]"}, {first(), "0c", "[]"}, {first(), "0", "[]"}, {growing(), "0" + strings.Repeat("a", 20), "[{0 " + strings.Repeat("a", 21) + "}]"},
		{fork, "0ab", "[{2 bab} {0 b} {1 eb} {0 eb}]"}, {fork, "0b", "[{1 }]"}, {fork, "1a", "[{0 }]"}, {fork, "2a", "[]"},
	} {
		list, e := push.Next(x.s, config(x.c))
		if fmt.Sprint(list) != x.want || e != api.OK {
			t.Errorf("%v, %s: %v, %d", x.s, x.c, list, e)
		}
	}
	random := rand.New(rand.NewSource(51))
	for range 3000 {
		s := someSystem(random, 1+random.Intn(5), 1+random.Intn(5), 30)
		c := someConfig(random, s.Controls, 5, 20)
		if list, e := push.Next(s, c); !slices.Equal(list, steps(s, c)) || e != api.OK {
			t.Fatalf("%v, %v: %v, %d", s, c, list, e)
		}
	}
}

// P4.1: what an acceptor accepts.
func TestAccepts(t *testing.T) {
	chain := acceptor(5, "0a2 1b2 2a3 2b2 3c4 4c4", 0, 3, 4)
	for c, want := range map[string]bool{"0": true, "1": false, "0a": false, "0aa": true, "1ba": true, "1aa": false, "0abba": true, "0abbaccc": true, "0aaca": false, "0aae": false, "0" + "a" + strings.Repeat("b", 18) + "a": true} {
		if is, e := push.Accepts(twice(), chain, config(c)); is != want || e != api.OK {
			t.Errorf("%s: %v, %d", c, is, e)
		}
	}
	// two moves with one letter; and the rules do not matter
	if is, _ := push.Accepts(growing(), acceptor(3, "0a1 0a2 1b1", 1), config("0ab")); !is {
		t.Error("ab is not accepted")
	}
	if is, _ := push.Accepts(growing(), acceptor(3, "0a1 1a2", 2), config("0a")); is {
		t.Error("a is accepted")
	}
	random := rand.New(rand.NewSource(52))
	found := map[bool]int{}
	for range 5000 {
		s := someSystem(random, 1+random.Intn(5), 5, 5)
		kinds := 1 + random.Intn(5)
		a := someAcceptor(random, s, kinds, random.Intn(8), 100)
		c := someConfig(random, s.Controls, kinds, 20)
		is, e := push.Accepts(s, a, c)
		if is != accepts(a, c) || e != api.OK {
			t.Fatalf("%v, %v: %v, %d", a, c, is, e)
		}
		found[is]++
	}
	if found[true] < 1000 || found[false] < 1000 {
		t.Error(found)
	}
}
