package push_test

import (
	"math/rand"
	"testing"

	"squeegee/api"
	"squeegee/push"
)

func endless(t *testing.T, s push.System, c push.Config) bool {
	t.Helper()
	is, e := push.Endless(s, c)
	if e != api.OK {
		t.Fatalf("Endless of %v, %v: %d", s, c, e)
	}
	return is
}

// P4.4: steps that never end, and steps that do.
func TestEndless(t *testing.T) {
	for _, x := range []struct {
		s    push.System
		c    string
		want bool
	}{
		{growing(), "0a", true}, {growing(), "0b", false}, {growing(), "0", false}, {growing(), "0ba", false}, {growing(), "0ab", true}, {first(), "0aaaa", false}, {twice(), "0ababab", false},
		{system(1, "0a0a"), "0a", true}, {system(1, "0a0a 0b0"), "0bba", true}, {system(1, "0a0a 0b0"), "0bb", false}, {system(1, ""), "0a", false},
		// only from one control; only if the stack can be emptied that far
		{system(2, "0a1a 1a1a"), "0a", true}, {system(2, "0a1a"), "0a", false}, {system(2, "0b1 1a1a"), "0ba", true}, {system(2, "0b1 1a1a"), "0a", false}, {system(2, "0b1 0a0a"), "0ba", false}, {system(2, "0b1 0b0b 0a0a"), "0ba", true},
		// the loop takes letters away, and puts them
		{system(1, "0a0ba 0b0"), "0a", true}, {system(1, "0a0ba"), "0a", false}, {system(2, "0a1bc 1b0 0c0a"), "0a", true}, {system(2, "0a1bc 1b0 1c0a"), "0a", false}, {system(2, "0a1bc 1b0c 0c1 1c0a"), "0a", true},
		// what is put below is never read
		{system(1, "0a0bc 0c0c"), "0a", false}, {system(1, "0a0bc 0c0c 0b0"), "0a", true}, {system(1, "0a0bc 0b0c 0c0"), "0a", false},
		// it stops and goes on, but only as long as there are letters
		{system(2, "0a1 1a0"), "0aaaaaaaaaaaaaaaaaaaa", false}, {system(2, "0a1 1a0 1b0b 0b1b"), "0aaab", true},
	} {
		if is := endless(t, x.s, config(x.c)); is != x.want {
			t.Errorf("%v, %s: %v", x.s, x.c, is)
		}
	}
}

// returns reports whether some steps, one at least, lead from just a letter back to it, perhaps with more below.
func returns(s push.System, c push.Config, height int) bool {
	for _, next := range steps(s, c) {
		far, _ := explore(s, next, height)
		for d := range far {
			if d.Control == c.Control && d.Stack != "" && d.Stack[0] == c.Stack[0] {
				return true
			}
		}
	}
	return false
}

// goesOn reports whether c leads to a letter that returns.
func goesOn(s push.System, far map[push.Config]int, height int) bool {
	known := map[push.Config]bool{}
	for d := range far {
		if d.Stack == "" {
			continue
		}
		top := push.Config{Control: d.Control, Stack: d.Stack[:1]}
		if _, found := known[top]; !found {
			known[top] = returns(s, top, height)
		}
		if known[top] {
			return true
		}
	}
	return false
}

// P4.4: where it never ends, it returns to a letter without going below it; where it ends, finitely much is reached, and nothing from itself.
func TestEndlessRandom(t *testing.T) {
	random := rand.New(rand.NewSource(62))
	found := map[bool]int{}
	for i := range 3000 {
		s := someSystem(random, 1+random.Intn(3), 1+random.Intn(3), 3+random.Intn(10))
		if i%4 == 0 {
			s = someFinite(random, 1+random.Intn(3), 3, 8)
		}
		c := someConfig(random, s.Controls, 2, 4)
		is := endless(t, s, c)
		far, all := explore(s, c, 6)
		if !is && !all {
			far, all = explore(s, c, 16)
		}
		if goesOn(s, far, 6) != is || !is && !all {
			t.Fatalf("%v, %v: %v", s, c, is)
		}
		found[is]++
	}
	if found[true] < 500 || found[false] < 500 {
		t.Error(found)
	}
}

// P4.4: from where some steps lead, it never ends either, if it never ends after them; and what is put below changes nothing.
func TestEndlessLaws(t *testing.T) {
	random := rand.New(rand.NewSource(63))
	found := map[bool]int{}
	for range 2000 {
		kinds := 1 + random.Intn(5)
		s := someSystem(random, 1+random.Intn(5), kinds, 12)
		c := someConfig(random, s.Controls, kinds, 8)
		is := endless(t, s, c)
		after := false
		for _, d := range steps(s, c) {
			after = after || endless(t, s, d)
		}
		lower := push.Config{Control: c.Control, Stack: c.Stack + some(random, 5, 10)}
		if is != after || is && !endless(t, s, lower) {
			t.Fatalf("%v, %v: %v, %v", s, c, is, after)
		}
		found[is]++
	}
	if found[true] < 300 || found[false] < 300 {
		t.Error(found)
	}
}
