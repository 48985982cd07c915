package regex_test

import (
	"math/rand"
	"reflect"
	"slices"
	"strings"
	"testing"

	"squeegee/api"
	"squeegee/regex"
)

// someWithTables are random expressions whose automaton can be made in the plain way, with it.
func someWithTables(t *testing.T, seed int64, count, size int) map[string]automaton {
	t.Helper()
	random := rand.New(rand.NewSource(seed))
	out := map[string]automaton{}
	for len(out) < count {
		s := some(random, 1+random.Intn(size))
		if m, ok := grown(t, s).plain(); ok && len(m.ends) <= 200 && len(s) <= 200 && regex.Check(s) == api.OK {
			out[s] = m
		}
	}
	return out
}

// P2.2, P2.5: the states are those of the least automaton, in the order of the first words that lead to them.
func TestStates(t *testing.T) {
	list := someWithTables(t, 1, 3000, 24)
	for _, s := range []string{
		"0", "1", "a", "!0", "!1", "!a", "(a|b)*", "(ab)*", "c", "cba", "(a|b)*a(a|b)(a|b)", "(a|b|c)*a(a|b|c)(a|b|c)(a|b|c)(a|b|c)(a|b|c)(a|b|c)",
		"(aaaaaaaaaaaaa)*|(aaaaaaaaaaaaaa)*", "(aaaaaaa)*&(bbb|aa)*", "!((ab|ba)*c)*", strings.Repeat("(a|b)", 39), strings.Repeat("abc", 66),
		"((a|b)*a(a|b)(a|b)(a|b)(a|b)(a|b)(a|b))*", "(aa)*&(aaa)*&(aaaaa)*", "(aaaaaa|aaaaaaaaaaaaaaa)*",
	} {
		m, ok := grown(t, s).plain()
		if !ok {
			t.Fatalf("%s: no plain automaton", s)
		}
		list[s] = m
	}
	for s, want := range list {
		ends, next, e := regex.States(s)
		if e == api.ErrLarge && len(want.ends) <= 200 && hasLargePart(t, s) {
			continue
		}
		if e != api.OK || !reflect.DeepEqual(ends, want.ends) || !reflect.DeepEqual(next, want.next) {
			t.Fatalf("%s: %v, %v, error %d instead of %v", s, ends, next, e, want)
		}
	}
}

// hasLargePart reports whether a part of the expression has more than 200 states.
func hasLargePart(t *testing.T, s string) bool {
	t.Helper()
	return grown(t, s).hasLarge()
}

func (x *tree) hasLarge() bool {
	for i := range x.parts {
		begin := &tree{x.op, x.parts[:i+1]}
		if m, ok := begin.plain(); !ok || len(m.ends) > 200 || x.parts[i].hasLarge() {
			return true
		}
	}
	return false
}

// P2.2: the chapter's examples.
func TestStatesOfExamples(t *testing.T) {
	for s, want := range map[string]automaton{
		"!0":    {[]bool{true}, [][3]int{{0, 0, 0}}},
		"0":     {[]bool{false}, [][3]int{{0, 0, 0}}},
		"1":     {[]bool{true, false}, [][3]int{{1, 1, 1}, {1, 1, 1}}},
		"a":     {[]bool{false, true, false}, [][3]int{{1, 2, 2}, {2, 2, 2}, {2, 2, 2}}},
		"b":     {[]bool{false, false, true}, [][3]int{{1, 2, 1}, {1, 1, 1}, {1, 1, 1}}},
		"(ab)*": {[]bool{true, false, false}, [][3]int{{1, 2, 2}, {2, 0, 2}, {2, 2, 2}}},
		"a*":    {[]bool{true, false}, [][3]int{{0, 1, 1}, {1, 1, 1}}},
	} {
		if m := states(t, s); !reflect.DeepEqual(m, want) {
			t.Errorf("%s: %v", s, m)
		}
	}
}

// P2.2: Count, Finite, Words and First agree with the words that are in the language by its definition.
func TestWordsOfLanguages(t *testing.T) {
	random := rand.New(rand.NewSource(2))
	all := wordsUpTo(6)
	for range 400 {
		s := some(random, 1+random.Intn(9))
		x := grown(t, s)
		var want []string
		for _, w := range all {
			if x.has(w) {
				want = append(want, w)
			}
		}
		for most := range 7 {
			up := slices.DeleteFunc(slices.Clone(want), func(w string) bool { return len(w) > most })
			got, e := regex.Words(s, most)
			if !slices.Equal(got, up) || e != api.OK {
				t.Fatalf("Words(%q, %d): %v, error %d", s, most, got, e)
			}
			exact := slices.DeleteFunc(up, func(w string) bool { return len(w) < most })
			if n := must[int64](t)(regex.Count(s, most)); n != int64(len(exact)) {
				t.Fatalf("Count(%q, %d): %d instead of %d", s, most, n, len(exact))
			}
		}
		w, found, e := regex.First(s)
		if e != api.OK || len(want) > 0 && (!found || w != want[0]) || len(want) == 0 && (w != "" || found && len(w) <= 6) {
			t.Fatalf("First(%q): %q, %v, error %d", s, w, found, e)
		}
	}
}

// P2.2: the chapter's examples and others.
func TestFirst(t *testing.T) {
	for s, want := range map[string]string{
		"!(a|b|1)&!(c*)": "aa", "1": "", "!0": "", "b|ab|ba": "b", "cb|ca|b*c": "c", "!1&!a&!b&!c": "aa", "(a|b)*c(a|b)*c": "cc",
		"(aaa)*&(aa)*&!1": "aaaaaa", "!(!0(a|b)!0)&!1": "c", strings.Repeat("c", 198): strings.Repeat("c", 198),
		"(aaaaaaaaaaaaa)*&(aaaaaaaaaaaaaa)*&!1": strings.Repeat("a", 182),
	} {
		if w, found, e := regex.First(s); w != want || !found || e != api.OK {
			t.Errorf("First(%q): %q, %v, error %d", s, w, found, e)
		}
	}
	for _, s := range []string{"0", "a&b", "!(!0)", "0*&!1", "a0|0b", "(ab)*&(ba)*&!1", "a*&!(a*)"} {
		if w, found, e := regex.First(s); w != "" || found || e != api.OK {
			t.Errorf("First(%q): %q, %v, error %d", s, w, found, e)
		}
	}
}

// P2.2: numbers of long words, and the least and the greatest length.
func TestCount(t *testing.T) {
	for _, c := range []struct {
		s      string
		length int
		want   int64
	}{
		{"(a|b)*", 3, 8}, {"(a|b)*", 0, 1}, {"(a|b)*", 30, 1 << 30}, {"!0", 30, 205891132094649}, {"0", 30, 0}, {"1", 0, 1}, {"1", 1, 0}, {"0", 0, 0}, {"!1", 0, 0},
		{"!1", 30, 205891132094649}, {"(a|bb)*", 30, 1346269}, {"(aaa)*", 30, 1}, {"(aaa)*", 29, 0}, {"!(!0aa!0)", 2, 8},
	} {
		if n, e := regex.Count(c.s, c.length); n != c.want || e != api.OK {
			t.Errorf("Count(%q, %d): %d, error %d", c.s, c.length, n, e)
		}
	}
	for _, length := range []int{-1, 31, -1 << 63, 1<<63 - 1} {
		if n, e := regex.Count("a", length); n != 0 || e != api.ErrArg {
			t.Errorf("Count(a, %d): %d, error %d", length, n, e)
		}
	}
	for _, most := range []int{-1, 7, -1 << 63, 1<<63 - 1} {
		if l, e := regex.Words("a", most); len(l) != 0 || e != api.ErrArg {
			t.Errorf("Words(a, %d): %v, error %d", most, l, e)
		}
	}
}

// P2.2: languages of finitely many words.
func TestFinite(t *testing.T) {
	for s, want := range map[string]bool{
		"0": true, "1": true, "a": true, "!0": false, "!1": false, "!a": false, "a*": false, "0*": true, "1*": true, "(a0)*": true, "a*0": true, "a*&b*": true, "a*&aaa": true,
		"(a|b)(a|b)(a|b)": true, "(ab)*&(ba)*": true, "(aa)*&(aaa)*": false, "!(!0(a|b)!0)": false, "!(!0(a|b)!0)&!(ccc!0)": true,
		strings.Repeat("a", 198): true, strings.Repeat("a", 196) + "b*": false, "!(!(abc))": true, "a(b|c0*)": true, "!(aaaaa!0)&a*": true,
	} {
		if f, e := regex.Finite(s); f != want || e != api.OK {
			t.Errorf("Finite(%q): %v, error %d", s, f, e)
		}
	}
	for s, m := range someWithTables(t, 3, 500, 20) {
		if f, e := regex.Finite(s); e != api.ErrLarge && (f != m.isFinite() || e != api.OK) {
			t.Fatalf("Finite(%q): %v, error %d", s, f, e)
		}
	}
}

// isFinite is whether no state that is passed on the way to an end can be passed twice.
func (m automaton) isFinite() bool {
	size := len(m.ends)
	reach := make([][]bool, size) // by at least one letter
	for q, row := range m.next {
		reach[q] = make([]bool, size)
		for _, to := range row {
			reach[q][to] = true
		}
	}
	for k := range size {
		for i := range size {
			for j := range size {
				reach[i][j] = reach[i][j] || reach[i][k] && reach[k][j]
			}
		}
	}
	for q := range size {
		for end := range size {
			if reach[q][q] && m.ends[end] && (q == end || reach[q][end]) {
				return false
			}
		}
	}
	return true
}

// R4: what States returned may be changed.
func TestStatesAreNew(t *testing.T) {
	for _, s := range []string{"a", "!a", "!(!a)", "(a|b)*a"} {
		ends, next, _ := regex.States(s)
		want := automaton{slices.Clone(ends), slices.Clone(next)}
		for q := range ends {
			ends[q] = !ends[q]
			next[q] = [3]int{-1, -1, -1}
		}
		if m := states(t, s); !reflect.DeepEqual(m, want) {
			t.Errorf("%s: %v", s, m)
		}
	}
}
