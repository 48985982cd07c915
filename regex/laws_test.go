package regex_test

import (
	"math/rand"
	"reflect"
	"testing"

	"squeegee/api"
	"squeegee/regex"
)

// P2.6: the laws of a Boolean algebra, and Kleene's.
func TestLaws(t *testing.T) {
	random := rand.New(rand.NewSource(41))
	for range 400 {
		x, y, z := "("+some(random, 1+random.Intn(6))+")", "("+some(random, 1+random.Intn(5))+")", "("+some(random, 1+random.Intn(4))+")"
		for _, law := range [][3]string{
			{"or commutes", x + "|" + y, y + "|" + x}, {"and commutes", x + "&" + y, y + "&" + x}, {"or associates", x + "|(" + y + "|" + z + ")", x + "|" + y + "|" + z}, {"and associates", x + "&(" + y + "&" + z + ")", x + "&" + y + "&" + z},
			{"absorption", x + "|" + x + "&" + y, x}, {"absorption", x + "&(" + x + "|" + y + ")", x}, {"distribution", x + "&(" + y + "|" + z + ")", x + "&" + y + "|" + x + "&" + z}, {"distribution", x + "|" + y + "&" + z, "(" + x + "|" + y + ")&(" + x + "|" + z + ")"},
			{"complement", x + "|!" + x, "!0"}, {"complement", x + "&!" + x, "0"}, {"double complement", "!!" + x, x}, {"De Morgan", "!(" + x + "|" + y + ")", "!" + x + "&!" + y}, {"De Morgan", "!(" + x + "&" + y + ")", "!" + x + "|!" + y},
			{"or 0", x + "|0", x}, {"and !0", x + "&!0", x}, {"chains associate", x + "(" + y + z + ")", x + y + z}, {"1 before", "1" + x, x}, {"1 after", x + "1", x}, {"0 before", "0" + x, "0"}, {"0 after", x + "0", "0"},
			{"chains distribute", x + "(" + y + "|" + z + ")", x + y + "|" + x + z}, {"chains distribute", "(" + x + "|" + y + ")" + z, x + z + "|" + y + z}, {"star unrolled", x + "*", "1|" + x + x + "*"}, {"star unrolled", x + "*", "1|" + x + "*" + x}, {"star of star", x + "**", x + "*"},
			{"star of or", "(" + x + "|" + y + ")*", "(" + x + "*" + y + "*)*"}, {"star of or", "(" + x + "|" + y + ")*", x + "*(" + y + x + "*)*"}, {"sliding", "(" + x + y + ")*" + x, x + "(" + y + x + ")*"},
			{"Arden", x + "*" + y, x + "(" + x + "*" + y + ")|" + y},
		} {
			if _, _, e := regex.States(law[1]); e != api.OK {
				continue
			}
			if _, _, e := regex.States(law[2]); e != api.OK {
				continue
			}
			same(t, law[0], law[1], law[2])
		}
	}
}

// P2.6, W1: x is within y just if x and not y is nothing; languages are the same just if each is within the other.
func TestOrderLaws(t *testing.T) {
	random := rand.New(rand.NewSource(42))
	found := map[bool]int{}
	for range 2000 {
		x, y := "("+some(random, 1+random.Intn(6))+")", "("+some(random, 1+random.Intn(6))+")"
		w, within, e := regex.Within(x, y)
		v, more, f := regex.First(x + "&!" + y)
		if e != api.OK || f != api.OK || within == more || w != v {
			t.Fatalf("%s within %s: %q, %v, %q, %v", x, y, w, within, v, more)
		}
		_, back, _ := regex.Within(y, x)
		_, equal, _ := regex.Equal(x, y)
		if equal != (within && back) {
			t.Fatalf("%s and %s: equal %v, within %v and %v", x, y, equal, within, back)
		}
		_, joined, _ := regex.Equal(x+"|"+y, y)
		if joined != within {
			t.Fatalf("%s within %s: %v, but with |: %v", x, y, within, joined)
		}
		found[within]++
	}
	if found[true] < 50 || found[false] < 50 {
		t.Errorf("%v", found)
	}
}

// P2.5: all states differ: each two of them are told apart by a word that has fewer letters than there are states.
func TestStatesDiffer(t *testing.T) {
	for s := range someWithTables(t, 43, 400, 16) {
		if _, _, e := regex.States(s); e != api.OK {
			continue
		}
		m := states(t, s)
		if len(m.least().ends) != len(m.ends) {
			t.Fatalf("%s: %v", s, m)
		}
		first := map[int]string{}
		for _, w := range wordsUpTo(4) {
			at := m.after(w)
			if _, found := first[at]; !found {
				if at != len(first) {
					t.Fatalf("%s: %q leads to state %d, after %d states", s, w, at, len(first))
				}
				first[at] = w
			}
		}
	}
}

// P1: expressions whose automata have far more sets of states than can be looked at end, too; so do those that hide it behind a small table.
func TestManySets(t *testing.T) {
	block, each := "(a|b)", "(a|b|c)"
	for s, want := range map[string]int{
		"(a|b)*(a" + repeat(block, 36) + ")": 0, "(" + each + "*(a" + repeat(each, 24) + "))*": 0, "(!0(a" + repeat("!1", 60) + "a!0))*": 64, "(!0a" + repeat("!1", 80) + ")*": 83,
		"(a|b)*(a" + repeat(block, 16) + "a|b" + repeat(block, 16) + "|1" + repeat(block, 3) + ")": 5, "(a|b)*(a" + repeat(block, 14) + "a|b" + repeat(block, 14) + "b|" + repeat(block, 6) + ")": 8,
		"(a" + repeat(block, 15) + "|b" + repeat(block, 15) + "b|a|b)*": 2, "((a|b)*a" + repeat(block, 6) + ")((a|b)*b" + repeat(block, 6) + ")": 136, "!(!0(a" + repeat("!1", 40) + "a|b" + repeat("!1", 40) + "b|" + repeat("!1", 9) + "))": 10,
	} {
		if len(s) > 200 {
			t.Fatalf("%s has %d bytes", s, len(s))
		}
		e := api.OK
		if want == 0 {
			e = api.ErrLarge
		}
		if ends, _, got := regex.States(s); len(ends) != want || got != e {
			t.Errorf("%s: %d states, error %d", s, len(ends), got)
		}
	}
}

// P1, R7: no call panics, whatever it is given, and all of them say the same when they are asked again.
func TestAnyStrings(t *testing.T) {
	random := rand.New(rand.NewSource(44))
	for i := range 3000 {
		b := make([]byte, random.Intn(40))
		for i := range b {
			b[i] = "abc01()*!|&abc\x00é\xff"[random.Intn(18)]
		}
		if i%2 == 0 {
			b = []byte(some(random, 1+random.Intn(15)))
		}
		for name, call := range calls(string(b)) {
			x, e := call()
			y, f := call()
			if !reflect.DeepEqual(x, y) || e != f || e != api.OK && e != api.ErrRegex && e != api.ErrLarge {
				t.Fatalf("%s of %q: error %d, %d", name, b, e, f)
			}
		}
	}
}
