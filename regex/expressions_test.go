package regex_test

import (
	"math/rand"
	"strings"
	"testing"

	"squeegee/api"
	"squeegee/regex"
)

var repeat = strings.Repeat

// P2.1: what is an expression.
func TestExpressions(t *testing.T) {
	for _, s := range []string{
		"a", "b", "c", "0", "1", "abc", "a|b", "a&b", "a|b&c", "a&b|c", "(a)", "((a))", "a*", "a**", "a***b", "0*", "1*", "!a", "!!a", "!a*", "!(a)*", "!(a|b)c", "(a|b)*c&!a", "a!b", "a(b)c", "(a)(b)", "!0!1", "a&b&c|a|1",
		repeat("a", 200), repeat("a*", 100), repeat("()", 0) + "a" + repeat("*", 199), repeat("(", 30) + "a" + repeat(")", 30), repeat("!", 30) + "a", repeat("!(", 15) + "a" + repeat(")", 15),
		repeat("(a)", 60), repeat("!a", 100), repeat("(", 29) + "(a)(b)!c" + repeat(")", 29), repeat("!", 29) + "(a)" + "!b", "a" + repeat("|a", 99), "a" + repeat("&a", 99) + "*",
	} {
		if e := regex.Check(s); e != api.OK {
			t.Errorf("Check(%q): %d", s, e)
		}
	}
	for _, s := range []string{
		"", "*", "|", "&", "(", ")", "!", "()", "(*)", "!*", "a|", "|a", "a||b", "a&", "&a", "a&&b", "a|&b", "a&|b", "(a", "a)", "((a)", "(a))", ")a(", "a|*", "a&*b", "(|a)", "(a&)", "!|a", "!)", "a!", "*a", "d", "A", "2", "a b", " a", "a ", "a\n", "a+", "a?", "-", ".", "ε", "a\x00", "\x00", "\xff", "a\xff", "ａ", "\u0430", "a\u0300",
		repeat("a", 201), repeat("a*", 100) + "*", "a" + repeat("*", 200), repeat("(", 31) + "a" + repeat(")", 31), repeat("!", 31) + "a", repeat("!(", 15) + "!a" + repeat(")", 15), repeat("(!", 15) + "(a)" + repeat(")", 15),
		repeat("(", 30) + "!a" + repeat(")", 30), repeat("!", 30) + "(a)", repeat("(", 200), repeat("(", 100000), repeat("!", 1000000), repeat("a", 1000000), "a" + repeat("*", 1000000),
	} {
		if e := regex.Check(s); e != api.ErrRegex {
			t.Errorf("Check(%.50q) of %d bytes: %d", s, len(s), e)
		}
	}
}

// P2.1: strings of the right characters are expressions just if they can be read as such.
func TestRandomStrings(t *testing.T) {
	random := rand.New(rand.NewSource(11))
	count := 0
	for range 100000 {
		b := make([]byte, random.Intn(9))
		for i := range b {
			b[i] = "abc01()()**!!||&&"[random.Intn(17)]
		}
		r := &reader{s: string(b)}
		r.expression()
		want := api.OK
		if r.wrong || r.at != len(b) {
			want = api.ErrRegex
			count++
		}
		if e := regex.Check(string(b)); e != want {
			t.Fatalf("Check(%q): %d instead of %d", b, e, want)
		}
	}
	if count < 1000 || count > 99000 {
		t.Errorf("%d are no expressions", count)
	}
}

// P2.1, P2.5: Has follows the definition of the languages, and a word is in the language just if its derivative is an end.
func TestHas(t *testing.T) {
	random := rand.New(rand.NewSource(12))
	for range 200 {
		s := some(random, 1+random.Intn(12))
		x := grown(t, s)
		m := states(t, s)
		for _, w := range wordsUpTo(3) {
			want := x.has(w)
			if got, e := regex.Has(s, w); got != want || e != api.OK {
				t.Fatalf("Has(%q, %q): %v, error %d", s, w, got, e)
			}
			at, e := regex.After(s, w)
			if e != api.OK || at != m.after(w) || m.ends[at] != want {
				t.Fatalf("After(%q, %q): %d, error %d", s, w, at, e)
			}
		}
	}
}

func (m automaton) after(w string) int {
	at := 0
	for _, c := range w {
		at = m.next[at][c-'a']
	}
	return at
}

// P2.1: the examples, what binds how tightly, and long words.
func TestHasOfExamples(t *testing.T) {
	for _, c := range []struct {
		s, w string
		want bool
	}{
		{"ab|c", "c", true}, {"ab|c", "ac", false}, {"a|b&c", "a", true}, {"a|b&c", "b", false}, {"(a|b)&b", "b", true}, {"ab*", "abb", true}, {"ab*", "abab", false}, {"(ab)*", "abab", true},
		{"!a*", "a", false}, {"!a*", "", true}, {"!a*", "aa", true}, {"!(a*)", "a", false}, {"!(a*)", "", false}, {"!ab", "b", true}, {"!ab", "ab", false}, {"!!a", "a", true},
		{"a&b", "a", false}, {"a*&aa", "aa", true}, {"1*", "", true}, {"0*", "", true}, {"0", "", false}, {"a0", "a", false}, {"a1b", "ab", true}, {"a**", "aaa", true}, {"!0", "cab", true}, {"!1", "", false},
		{"(ab)*", repeat("ab", 50), true}, {"(ab)*", repeat("ab", 49) + "ac", false}, {"!(!0c!0)", repeat("ab", 49) + "ac", false}, {"a*", repeat("a", 100), true},
	} {
		if got, e := regex.Has(c.s, c.w); got != c.want || e != api.OK {
			t.Errorf("Has(%q, %q): %v, error %d", c.s, c.w, got, e)
		}
	}
	for w, want := range map[string]int{"": 0, "a": 1, "aa": 2, "b": 2, "ab": 0, "aba": 1, "c": 2, "abc": 2, repeat("ab", 50): 0} {
		if at, e := regex.After("(ab)*", w); at != want || e != api.OK {
			t.Errorf("After((ab)*, %q): %d, error %d", w, at, e)
		}
	}
}

// large has more than 200 states; tight has just 200.
var (
	large = repeat("a", 199)
	tight = repeat("a", 198)
)

// P2.1: 200 states are allowed, 201 are not.
func TestTwoHundredStates(t *testing.T) {
	block := "(a|b)"
	for s, want := range map[string]int{
		tight: 200, repeat("c", 198): 200, "!" + "(" + repeat("b", 196) + ")": 198, repeat("a", 196) + "b*": 198, large: 0, repeat("a", 200): 0, "!(" + repeat("b", 197) + ")": 199,
		"(a|b)*a" + repeat(block, 6): 129, "(a|b)*a" + repeat(block, 7): 0, "(a|b)*(a" + repeat(block, 7) + ")": 0, "(a|b)*(a" + repeat(block, 37) + ")": 0, "!((a|b)*a" + repeat(block, 7) + ")": 0,
		"(aa)*&(aaa)*&(aaaaa)*": 31, "(aa)*&(aaa)*&(aaaaa)*&(aaaaaaa)*": 0, "(" + repeat("a", 190) + ")*": 191, "(" + repeat("a", 197) + ")*": 198,
		"(aaaaaaaaaaaaa)*|(aaaaaaaaaaaaaa)*": 183, "(aaaaaaaaaaaaa)*|(aaaaaaaaaaaaaaaa)*": 0, "((aaaaaaaaaaaaa)*|(aaaaaaaaaaaaaaaa)*)&0": 0,
		"((a|b)*a" + repeat(block, 6) + ")*": 129, "((a|b)*a" + repeat(block, 6) + "c)*": 130, "(a|b)*(a" + repeat(block, 15) + "|" + repeat(block, 10) + ")": 12,
	} {
		ends, _, e := regex.States(s)
		if want == 0 && e != api.ErrLarge || want != 0 && e != api.OK || len(ends) != want {
			t.Errorf("%s: %d states, error %d", s, len(ends), e)
		}
	}
}

// P2.1: the parts that count, and what is no part.
func TestLargeParts(t *testing.T) {
	lcm := "(aa)*&(aaa)*&(aaaaa)*"
	wide := "(a|b)*a" + repeat("(a|b)", 7)
	cut := wide[:len(wide)-len("(a|b)")]
	for s, want := range map[string]api.Errno{
		// items: the first one, two, three and so on
		large + "0": api.ErrLarge, "0" + large: api.OK, wide + "0": api.ErrLarge, "0" + wide: api.OK, "0(" + wide + ")": api.ErrLarge, "(" + wide + ")0": api.ErrLarge, cut + "0(a|b)": api.OK,
		// meets
		lcm + "&(aaaaaaa)*&0": api.ErrLarge, lcm + "&0&(aaaaaaa)*": api.OK, "0&" + lcm + "&(aaaaaaa)*": api.OK, "0&(" + lcm + "&(aaaaaaa)*)": api.ErrLarge, wide + "&0": api.ErrLarge, "0&" + wide: api.ErrLarge, "0&" + cut: api.OK,
		// alternatives
		"(aaaaaaaaaaaaa)*|(aaaaaaaaaaaaaaaa)*|!0": api.ErrLarge, "(aaaaaaaaaaaaa)*|!0|(aaaaaaaaaaaaaaaa)*": api.OK, "!0|(aaaaaaaaaaaaa)*|(aaaaaaaaaaaaaaaa)*": api.OK, "!0|((aaaaaaaaaaaaa)*|(aaaaaaaaaaaaaaaa)*)": api.ErrLarge, wide + "|!0": api.ErrLarge, "!0|" + wide: api.ErrLarge,
		// atoms and stars
		"(" + wide + ")*&1": api.ErrLarge, "!(" + wide + ")&0": api.ErrLarge, "!!(" + wide + ")&0": api.ErrLarge, "(((" + wide + ")))&0": api.ErrLarge, "(0&(" + wide + "))": api.ErrLarge, "1|(0(" + wide + "))*": api.ErrLarge,
	} {
		if len(s) > 200 {
			t.Fatalf("%s is too long", s)
		}
		if _, _, e := regex.States(s); e != want {
			t.Errorf("%s: error %d instead of %d", s, e, want)
		}
		if e := regex.Check(s); e != api.OK {
			t.Errorf("Check(%s): %d", s, e)
		}
	}
}

// calls are all calls that take an expression, with results next to an error that are not zero.
func calls(s string) map[string]func() ([]any, api.Errno) {
	return map[string]func() ([]any, api.Errno){
		"Has":     func() ([]any, api.Errno) { x, e := regex.Has(s, "a"); return []any{x}, e },
		"After":   func() ([]any, api.Errno) { x, e := regex.After(s, "a"); return []any{x}, e },
		"States":  func() ([]any, api.Errno) { x, y, e := regex.States(s); return []any{x, y}, e },
		"Words":   func() ([]any, api.Errno) { x, e := regex.Words(s, 3); return []any{x}, e },
		"Equal":   func() ([]any, api.Errno) { x, y, e := regex.Equal(s, "b"); return []any{x, y}, e },
		"Equal2":  func() ([]any, api.Errno) { x, y, e := regex.Equal("b", s); return []any{x, y}, e },
		"Equal3":  func() ([]any, api.Errno) { x, y, e := regex.Equal(s, s); return []any{x, y}, e },
		"Within":  func() ([]any, api.Errno) { x, y, e := regex.Within(s, "b"); return []any{x, y}, e },
		"Within2": func() ([]any, api.Errno) { x, y, e := regex.Within("b", s); return []any{x, y}, e },
		"First":   func() ([]any, api.Errno) { x, y, e := regex.First(s); return []any{x, y}, e },
		"Count":   func() ([]any, api.Errno) { x, e := regex.Count(s, 1); return []any{x}, e },
		"Finite":  func() ([]any, api.Errno) { x, e := regex.Finite(s); return []any{x}, e },
	}
}

// P2.1, R2: all calls refuse what is no expression and what is too large, with zero values.
func TestErrorsOfAllCalls(t *testing.T) {
	for s, want := range map[string]api.Errno{
		"": api.ErrRegex, "a|": api.ErrRegex, "(a": api.ErrRegex, "x": api.ErrRegex, repeat("a", 201): api.ErrRegex, repeat("!", 31) + "a": api.ErrRegex,
		large: api.ErrLarge, "(a|b)*(a" + repeat("(a|b)", 30) + ")": api.ErrLarge, tight: api.OK, "a": api.OK,
	} {
		for name, call := range calls(s) {
			results, e := call()
			if e != want {
				t.Errorf("%s of %.40q: error %d instead of %d", name, s, e, want)
			}
			for _, x := range results {
				if e != api.OK && !isZero(x) {
					t.Errorf("%s of %.40q: %v with error %d", name, s, x, e)
				}
			}
		}
	}
}

// P2.1: words have at most 100 letters; ErrRegex comes before ErrWord, ErrWord before ErrLarge.
func TestWords(t *testing.T) {
	for _, w := range []string{"d", "A", "a ", " ", "0", "1", "ab|", "-", "é", "\xff", "\x00", "ａ", repeat("a", 101), repeat("a", 1000000), repeat("a", 99) + "é", repeat("x", 200)} {
		for s, want := range map[string]api.Errno{"a": api.ErrWord, large: api.ErrWord, "a|": api.ErrRegex} {
			if got, e := regex.Has(s, w); got || e != want {
				t.Errorf("Has(%.20q, %.20q): %v, error %d", s, w, got, e)
			}
			if at, e := regex.After(s, w); at != 0 || e != want {
				t.Errorf("After(%.20q, %.20q): %d, error %d", s, w, at, e)
			}
		}
	}
	for _, w := range []string{"", "a", "abc", repeat("c", 100)} {
		if _, e := regex.Has("!0", w); e != api.OK {
			t.Errorf("Has(!0, %q): error %d", w, e)
		}
	}
}

// P2.1, P2.2: of several errors that comes which is named first.
func TestOrderOfErrors(t *testing.T) {
	count := func(s string, n int) api.Errno { _, e := regex.Count(s, n); return e }
	words := func(s string, n int) api.Errno { _, e := regex.Words(s, n); return e }
	for _, c := range []struct {
		name      string
		got, want api.Errno
	}{
		{"Count of none", count("(", 31), api.ErrRegex}, {"Count of large", count(large, 31), api.ErrLarge}, {"Count", count("a", 31), api.ErrArg},
		{"Words of none", words("(", 7), api.ErrRegex}, {"Words of large", words(large, -1), api.ErrLarge}, {"Words", words("a", -1), api.ErrArg},
	} {
		if c.got != c.want {
			t.Errorf("%s: error %d instead of %d", c.name, c.got, c.want)
		}
	}
	for _, call := range []func(s, t string) (string, bool, api.Errno){regex.Equal, regex.Within} {
		for _, p := range [][2]string{{large, "("}, {"(", large}, {"(", "a"}, {"a", "("}} {
			if w, ok, e := call(p[0], p[1]); w != "" || ok || e != api.ErrRegex {
				t.Errorf("%.10q, %.10q: %q, %v, error %d", p[0], p[1], w, ok, e)
			}
		}
	}
}
