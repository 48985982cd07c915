package push_test

import (
	"math/rand"
	"testing"

	"squeegee/push"
)

// words checks which configurations of at most 4 letters a result accepts.
func words(t *testing.T, what string, s push.System, kinds int, a push.Acceptor, want ...string) {
	t.Helper()
	wanted := map[push.Config]bool{}
	for _, w := range want {
		wanted[config(w)] = true
	}
	for _, c := range configs(s.Controls, kinds, 4) {
		if accepts(a, c) != wanted[c] {
			t.Errorf("%s of %v: %v: %v", what, s, c, !wanted[c])
		}
	}
}

// P4.2: predecessors.
func TestBefore(t *testing.T) {
	for _, x := range []struct {
		s    push.System
		a    push.Acceptor
		want []string
	}{
		{growing(), just(growing(), config("0aaa")), []string{"0a", "0aa", "0aaa"}},
		{first(), just(first(), config("0bba")), []string{"0aa", "0aaa", "0aba", "0baa", "0bba", "0aaaa", "0aaba", "0abaa", "0abba", "0baaa", "0baba", "0bbaa", "0bbba"}},
		{first(), acceptor(1, ""), nil},
		// the empty stack is not left
		{growing(), acceptor(1, "", 0), []string{"0"}},
		{twice(), just(twice(), config("1")), []string{"1", "0a", "0ab", "1b", "1bb", "0abb", "1bbb", "0abbb", "1bbbb"}},
		// without rules, all that the acceptor accepts
		{system(2, ""), acceptor(4, "0a2 1a3 2b3 3a3", 0, 3), []string{"0", "0ab", "0aba", "0abaa", "1a", "1aa", "1aaa", "1aaaa"}},
		// a letter that no rule reads
		{system(1, "0a0"), acceptor(2, "0b1", 1), []string{"0b", "0ab", "0aab", "0aaab"}},
	} {
		words(t, "Before", x.s, 2, before(t, x.s, x.a), x.want...)
	}
}

// P4.2: successors.
func TestAfter(t *testing.T) {
	for _, x := range []struct {
		s    push.System
		a    push.Acceptor
		want []string
	}{
		{growing(), just(growing(), config("0aa")), []string{"0aa", "0aaa", "0aaaa"}},
		{growing(), just(growing(), config("0")), []string{"0"}},
		{first(), just(first(), config("0a")), []string{"0a", "0bb", "0b", "0"}},
		{first(), acceptor(1, ""), nil},
		{twice(), just(twice(), config("0abb")), []string{"0abb", "1bb", "0ab", "1b", "0a", "1"}},
		{system(2, ""), acceptor(4, "0a2 1a3 2b3 3a3", 0, 3), []string{"0", "0ab", "0aba", "0abaa", "1a", "1aa", "1aaa", "1aaaa"}},
		// the letter that is put is used with what lay below it only
		{system(2, "0a0bc 0b1"), acceptor(4, "0a2 2a3", 2, 3), []string{"0a", "0aa", "0bc", "0bca", "1c", "1ca"}},
		{system(2, "0a0ba 1a0ba 0b1"), just(system(2, ""), config("0a")), []string{"0a", "0ba", "1a"}},
	} {
		words(t, "After", x.s, 3, after(t, x.s, x.a), x.want...)
	}
}

// P4.2: where finitely much is reached, both are compared with all that is.
func TestSetsFinite(t *testing.T) {
	random := rand.New(rand.NewSource(53))
	found := map[string]int{}
	for range 400 {
		s := someFinite(random, 1+random.Intn(3), 3, 20)
		a := someAcceptor(random, s, 3, 1+random.Intn(3), 12)
		earlier, later := before(t, s, a), after(t, s, a)
		list := configs(s.Controls, 3, 3)
		reached := map[push.Config]bool{}
		for _, c := range list {
			far, all := explore(s, c, 20)
			leads := false
			for d := range far {
				leads = leads || accepts(a, d)
				reached[d] = reached[d] || accepts(a, c)
			}
			if !all || accepts(earlier, c) != leads {
				t.Fatalf("%v, %v, %v: %v, %v", s, a, c, all, leads)
			}
			if leads && !accepts(a, c) {
				found["before"]++
			}
		}
		for d, is := range reached {
			if is && !accepts(later, d) {
				t.Fatalf("%v, %v: %v is reached", s, a, d)
			}
			if is && !accepts(a, d) {
				found["after"]++
			}
		}
		for _, d := range list {
			if accepts(later, d) && !reached[d] && !reachedFromHigher(t, s, a, d) {
				t.Fatalf("%v, %v: %v is not reached", s, a, d)
			}
		}
	}
	if found["before"] < 2000 || found["after"] < 500 {
		t.Error(found)
	}
}

// reachedFromHigher reports whether d is reached from an accepted configuration of 4 to 6 letters.
func reachedFromHigher(t *testing.T, s push.System, a push.Acceptor, d push.Config) bool {
	t.Helper()
	tails := before(t, s, just(s, d))
	for _, c := range configs(s.Controls, 3, 6) {
		if len(c.Stack) > 3 && accepts(a, c) && accepts(tails, c) {
			return true
		}
	}
	return false
}

// P4.2: where infinitely much may be reached, both are compared with what is reached through stacks that are not high.
func TestSetsInfinite(t *testing.T) {
	random := rand.New(rand.NewSource(54))
	missed, found := 0, 0
	for range 300 {
		s := someSystem(random, 1+random.Intn(2), 2, 7)
		a := someAcceptor(random, s, 2, random.Intn(4), 8)
		earlier, later := before(t, s, a), after(t, s, a)
		for _, c := range configs(s.Controls, 2, 3) {
			far, all := explore(s, c, 9)
			leads := false
			for d := range far {
				leads = leads || accepts(a, d)
				if accepts(a, c) && !accepts(later, d) {
					t.Fatalf("%v, %v: %v is reached from %v", s, a, d, c)
				}
			}
			if leads && !accepts(earlier, c) || all && !leads && accepts(earlier, c) {
				t.Fatalf("%v, %v, %v: %v", s, a, c, leads)
			}
			if accepts(earlier, c) && !leads {
				missed++
			}
			if !all {
				found++
			}
		}
	}
	if missed > 5 || found < 1000 {
		t.Error(missed, found)
	}
}

// P4.5: c is a predecessor of just d, just if d is a successor of just c, and just if it is reached.
func TestThereAndBack(t *testing.T) {
	random := rand.New(rand.NewSource(55))
	found := map[bool]int{}
	for range 1500 {
		kinds := 1 + random.Intn(5)
		s := someSystem(random, 1+random.Intn(5), kinds, 30)
		c, d := someConfig(random, s.Controls, kinds, 7), someConfig(random, s.Controls, kinds, 7)
		is := reaches(t, s, c, d)
		if accepts(before(t, s, just(s, d)), c) != is || accepts(after(t, s, just(s, c)), d) != is {
			t.Fatalf("%v, %v, %v: %v", s, c, d, is)
		}
		found[is]++
	}
	if found[true] < 300 || found[false] < 300 {
		t.Error(found)
	}
}

// P4.2, P4.5: a predecessor of an acceptor with many states and moves has a successor that it accepts.
func TestSetsLarge(t *testing.T) {
	random := rand.New(rand.NewSource(56))
	found := map[bool]int{}
	for range 150 {
		s := someSystem(random, 5, 5, 30)
		a := someAcceptor(random, s, 5, 7, 110)
		if len(a.Moves) > 100 {
			a.Moves = a.Moves[:100]
		}
		earlier, later := before(t, s, a), after(t, s, a)
		for range 20 {
			c := someConfig(random, 5, 5, 6)
			far, all := explore(s, c, 5)
			leads := false
			for d := range far {
				leads = leads || accepts(a, d)
				if accepts(a, c) && !accepts(later, d) {
					t.Fatalf("%v, %v: %v is reached from %v", s, a, d, c)
				}
			}
			if leads && !accepts(earlier, c) || all && !leads && accepts(earlier, c) || accepts(a, c) && !accepts(earlier, c) {
				t.Fatalf("%v, %v, %v: %v", s, a, c, leads)
			}
			found[leads]++
		}
	}
	if found[true] < 500 || found[false] < 100 {
		t.Error(found)
	}
}
