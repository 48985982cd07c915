package regex_test

import (
	"math/rand"
	"reflect"
	"regexp"
	"slices"
	"strings"
	"testing"

	"squeegee/api"
	"squeegee/regex"
)

// checkExpress checks an expression that Express returns.
func checkExpress(t *testing.T, m automaton) {
	t.Helper()
	kept := automaton{slices.Clone(m.ends), slices.Clone(m.next)}
	s, e := regex.Express(m.ends, m.next)
	if e != api.OK || len(s) > 100000 || strings.Trim(s, "abc01|*()") != "" {
		t.Fatalf("Express(%v): %.200q, error %d", m, s, e)
	}
	if !reflect.DeepEqual(m, kept) {
		t.Fatalf("Express changed %v to %v", kept, m)
	}
	x := grown(t, s)
	if regex.Check(s) == api.OK {
		if got := states(t, s); !reflect.DeepEqual(got, m.least()) {
			t.Fatalf("Express(%v): %q has the states %v", m, s, got)
		}
		return
	}
	if got, ok := x.plain(); ok && !reflect.DeepEqual(got, m.least()) {
		t.Fatalf("Express(%v): %q has the states %v", m, s, got)
	}
	r := regexp.MustCompile("^(?:" + strings.NewReplacer("0", `[^\x00-\x{10FFFF}]`, "1", "(?:)").Replace(s) + ")$")
	for _, w := range wordsUpTo(5) {
		if r.MatchString(w) != m.ends[m.after(w)] {
			t.Fatalf("Express(%v): %q is wrong for %q", m, s, w)
		}
	}
}

// someAutomaton is a table for Express.
func someAutomaton(random *rand.Rand, size int) automaton {
	m := automaton{make([]bool, size), make([][3]int, size)}
	for q := range size {
		m.ends[q] = random.Intn(3) == 0
		for letter := range 3 {
			m.next[q][letter] = random.Intn(size)
			if random.Intn(4) == 0 {
				m.next[q][letter] = q
			}
		}
	}
	return m
}

// P2.4: expressions for random tables.
func TestExpress(t *testing.T) {
	random := rand.New(rand.NewSource(31))
	for i := range 1500 {
		checkExpress(t, someAutomaton(random, 1+i%6))
	}
}

// P2.4: all tables of one state and of two.
func TestExpressSmall(t *testing.T) {
	for ends := range 4 {
		for code := range 64 {
			m := automaton{[]bool{ends&1 > 0, ends&2 > 0}, make([][3]int, 2)}
			for i := range 6 {
				m.next[i/3][i%3] = code >> i & 1
			}
			checkExpress(t, m)
		}
	}
	for s, ends := range map[string]bool{"0": false, "!0": true} {
		got, e := regex.Express([]bool{ends}, [][3]int{{}})
		if e != api.OK {
			t.Fatalf("error %d", e)
		}
		same(t, "one state", s, got)
	}
}

// P2.4: tables whose expressions are the longest that were found, and others in which everything hangs together.
func TestExpressLong(t *testing.T) {
	all := []bool{true, true, true, true, true, true}
	for _, m := range []automaton{
		{[]bool{true, true, true, true, false, true}, [][3]int{{1, 3, 3}, {5, 4, 2}, {1, 0, 5}, {4, 4, 1}, {5, 3, 2}, {1, 2, 0}}},
		{[]bool{true, true, true, false, true, true}, [][3]int{{1, 1, 3}, {2, 3, 4}, {4, 0, 5}, {5, 1, 2}, {3, 3, 5}, {1, 4, 2}}},
		{[]bool{false, true, true, true, true, true}, [][3]int{{2, 1, 5}, {3, 4, 3}, {4, 3, 3}, {1, 4, 5}, {3, 3, 2}, {0, 3, 3}}},
		{[]bool{false, false, false, false, false, true}, [][3]int{{1, 2, 3}, {2, 3, 4}, {3, 4, 5}, {4, 5, 0}, {5, 0, 1}, {0, 1, 2}}},
		{all, [][3]int{{1, 2, 3}, {2, 3, 4}, {3, 4, 5}, {4, 5, 0}, {5, 0, 1}, {0, 1, 2}}},
		{make([]bool, 6), [][3]int{{1, 2, 3}, {2, 3, 4}, {3, 4, 5}, {4, 5, 0}, {5, 0, 1}, {0, 1, 2}}},
	} {
		checkExpress(t, m)
	}
}

// P2.4: what is no table.
func TestExpressErrors(t *testing.T) {
	row := [3]int{}
	for _, m := range []automaton{
		{nil, nil}, {[]bool{}, [][3]int{}}, {[]bool{true}, nil}, {nil, [][3]int{row}}, {[]bool{true, true}, [][3]int{row}}, {[]bool{true}, [][3]int{row, row}},
		{make([]bool, 7), make([][3]int, 7)}, {make([]bool, 6), make([][3]int, 7)}, {make([]bool, 7), make([][3]int, 6)}, {make([]bool, 100000), make([][3]int, 100000)},
		{[]bool{true}, [][3]int{{0, 0, 1}}}, {[]bool{true}, [][3]int{{-1, 0, 0}}}, {[]bool{true}, [][3]int{{0, 1<<63 - 1, 0}}}, {[]bool{true}, [][3]int{{0, -1 << 63, 0}}},
		{[]bool{true, true}, [][3]int{{0, 1, 1}, {0, 2, 0}}}, {make([]bool, 6), [][3]int{row, row, row, row, row, {5, 5, 6}}},
	} {
		if s, e := regex.Express(m.ends, m.next); s != "" || e != api.ErrArg {
			t.Errorf("Express of %d and %d elements: %q, error %d", len(m.ends), len(m.next), s, e)
		}
	}
	if _, e := regex.Express(make([]bool, 6), [][3]int{row, row, row, row, row, {5, 5, 5}}); e != api.OK {
		t.Errorf("Express: error %d", e)
	}
}

// R4: what lies beyond the length of the slices is neither read nor written.
func TestExpressBeyond(t *testing.T) {
	ends, next := []bool{true, true, false}, [][3]int{{0, 1, 1}, {1, 1, 1}, {9, 9, 9}}
	s, e := regex.Express(ends[:2], next[:2])
	if e != api.OK || ends[2] || next[2] != [3]int{9, 9, 9} {
		t.Fatalf("%v, %v, error %d", ends, next, e)
	}
	same(t, "two states", s, "!0")
}

// W3, P2.4: from an expression to its table and back.
func TestThereAndBack(t *testing.T) {
	count := 0
	for s, m := range someWithTables(t, 32, 800, 12) {
		if len(m.ends) > 6 {
			continue
		}
		count++
		back, e := regex.Express(m.ends, m.next)
		if e != api.OK {
			t.Fatalf("Express of %s: error %d", s, e)
		}
		if regex.Check(back) == api.OK {
			same(t, "there and back", s, back)
		}
	}
	if count < 400 {
		t.Errorf("only %d", count)
	}
}
