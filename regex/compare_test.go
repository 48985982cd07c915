package regex_test

import (
	"math/rand"
	"testing"

	"squeegee/api"
	"squeegee/regex"
)

// P2.3: the examples and others.
func TestEqual(t *testing.T) {
	for _, c := range []struct {
		s, t, word string
	}{
		{"a*", "a*a", ""}, {"0", "1", ""}, {"a", "b", "a"}, {"b", "a", "a"}, {"a|b", "b", "a"}, {"(ab)*", "(ab)*|ba", "ba"}, {"!0", "!(cc)", "cc"}, {"a*", "(aa)*", "a"}, {"(aa)*", "(aaa)*", "aa"},
		{"!(a|b|1)", "c*", ""}, {"(a|b)*", "(a|b|c)*", "c"}, {"ab|c", "a(b|c)", "c"}, {tight, tight[1:], tight[1:]}, {"(aaaaaaaaaaaaa)*&(aaaaaaaaaaaaaa)*", "1", repeat("a", 182)},
	} {
		if w, ok, e := regex.Equal(c.s, c.t); w != c.word || ok || e != api.OK {
			t.Errorf("Equal(%.20q, %.20q): %q, %v, error %d", c.s, c.t, w, ok, e)
		}
		if w, ok, e := regex.Equal(c.t, c.s); w != c.word || ok || e != api.OK {
			t.Errorf("Equal(%.20q, %.20q): %q, %v, error %d", c.t, c.s, w, ok, e)
		}
	}
	for _, p := range [][2]string{
		{"(a|b)*", "(a*b*)*"}, {"a", "a"}, {"0", "a&b"}, {"1", "0*"}, {"!0", "(a|b|c)*"}, {"!1", "(a|b|c)(a|b|c)*"}, {"(a|b)*a(a|b)", "(a|b)*(aa|ab)"}, {"(aa)*&(aaa)*", "(aaaaaa)*"}, {"a*", "1|a*a"}, {tight, "(" + tight + ")"},
	} {
		same(t, "Equal", p[0], p[1])
	}
}

// P2.3: Within is not the same in both directions.
func TestWithin(t *testing.T) {
	for _, c := range []struct {
		s, t, word string
	}{
		{"a*", "a*a", ""}, {"1", "0", ""}, {"a", "b", "a"}, {"b", "a", "b"}, {"a|b", "b", "a"}, {"(ab)*|ba", "(ab)*", "ba"}, {"!0", "!(cc)", "cc"}, {"!0", "a*", "b"}, {"(aa)*", "(aaa)*", "aa"}, {"(aaa)*", "(aa)*", "aaa"},
		{"(aaaaaaaaaaa)*&!1", "!((aaaaaaaaaaaaaaaaa)*)", repeat("a", 187)},
		{"(" + repeat("a", 97) + ")*&!1", "!((" + repeat("a", 96) + ")*)", repeat("a", 97*96)},
	} {
		if w, ok, e := regex.Within(c.s, c.t); w != c.word || ok || e != api.OK {
			t.Errorf("Within(%.20q, %.20q): %.50q, %v, error %d", c.s, c.t, w, ok, e)
		}
	}
	for _, p := range [][2]string{{"a*a", "a*"}, {"0", "0"}, {"0", "1"}, {"a", "!0"}, {"a", "a"}, {"a&b", "c"}, {"ab", "(a|b)*"}, {"!(a*)", "!a"}, {"(aaaaaa)*", "(aa)*&(aaa)*"}} {
		if w, ok, e := regex.Within(p[0], p[1]); w != "" || !ok || e != api.OK {
			t.Errorf("Within(%q, %q): %q, %v, error %d", p[0], p[1], w, ok, e)
		}
	}
}

// P2.3: the first word is found that makes a difference by the definition of the languages.
func TestFirstDifference(t *testing.T) {
	random := rand.New(rand.NewSource(21))
	all := wordsUpTo(5)
	for range 1500 {
		s, u := some(random, 1+random.Intn(8)), some(random, 1+random.Intn(8))
		x, y := grown(t, s), grown(t, u)
		differ := func(w string) bool { return x.has(w) != y.has(w) }
		w, ok, e := regex.Equal(s, u)
		checkFirst(t, "Equal", s, u, all, differ, w, ok, e)
		more := func(w string) bool { return x.has(w) && !y.has(w) }
		w, ok, e = regex.Within(s, u)
		checkFirst(t, "Within", s, u, all, more, w, ok, e)
	}
}

func checkFirst(t *testing.T, name, s, u string, all []string, wanted func(string) bool, got string, ok bool, e api.Errno) {
	t.Helper()
	if e != api.OK || ok && got != "" || !ok && !wanted(got) {
		t.Fatalf("%s(%q, %q): %q, %v, error %d", name, s, u, got, ok, e)
	}
	for _, w := range all {
		if w == got && !ok {
			return
		}
		if wanted(w) {
			t.Fatalf("%s(%q, %q): %q, %v instead of %q", name, s, u, got, ok, w)
		}
	}
}
