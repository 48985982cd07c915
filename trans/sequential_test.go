package trans_test

import (
	"math/rand"
	"reflect"
	"slices"
	"strings"
	"testing"

	"squeegee/api"
	"squeegee/trans"
)

// P3.3: the first word that two machines do not have the same output for.
func TestSame(t *testing.T) {
	empty, all := machine(0, "-"), machine(0, ".", edges("0a0 0b0")...)
	for _, x := range []struct {
		m, n trans.Machine
		word string
		same bool
	}{
		{plain(), plain(), "", true}, {empty, machine(1, ". -", edges("0ax0 1a1 1b1")...), "", true}, {all, machine(1, ". .", edges("0a0 0b1 1a1 1b0")...), "", true},
		// the empty word, of which the outputs differ, or which only one has
		{all, machine(0, "x", edges("0a0 0b0")...), "", false}, {empty, all, "", false}, {all, empty, "", false}, {machine(0, "x"), machine(0, "y"), "", false}, {machine(0, "x"), machine(0, "xx"), "", false},
		// the first by length, then in alphabetical order
		{plain(), machine(0, ".", edges("0ay0 0bx0")...), "a", false}, {plain(), machine(0, ".", edges("0ax0 0bx0")...), "b", false}, {plain(), machine(0, ".", "0ax0"), "b", false}, {machine(0, ".", "0ax0"), plain(), "b", false},
		{machine(0, ". . .", edges("0a0 0b1 1ax1 1bx2 2a2 2b2")...), machine(0, ". . .", edges("0a0 0b1 1ax1 1b2 2a2 2b2")...), "bb", false}, {machine(0, ". . .", edges("0a1 0b2 1bx1 2ax2")...), machine(0, ". . .", edges("0a1 0b2 1by1 2ay2")...), "ab", false},
		// what is written sooner or later is the same
		{machine(0, "x yx", edges("0axy1 1ax0")...), machine(0, "x x", edges("0axyy1 1axx0")...), "aa", false}, {machine(0, "- .", edges("0axy1 1b1")...), machine(1, "y -", edges("0b0 1ax0")...), "", true}, {machine(0, "xy", "0ayx0"), machine(0, "xy", "0axy0"), "a", false}, {machine(0, "- .", edges("0axy1 1axy1")...), machine(0, "- y", edges("0ax1 1ayx1")...), "", true},
		// words that are accepted by neither do not matter
		{machine(0, ". -", edges("0ax1 1ax1")...), machine(0, ". -", edges("0ay1 0by1")...), "", true}, {machine(0, "- - .", edges("0a1 1a2")...), machine(0, "- - .", edges("0a1 0by1 1a2 1by2")...), "ab", false},
		// outputs that differ for good before the end
		{machine(0, "- - - .", edges("0ax1 1a2 2a3")...), machine(0, "- - - .", edges("0ay1 1a2 2a3")...), "aaa", false}, {machine(0, "- . y", edges("0ax1 0bx2 1a1 1b2 2a1 2b2")...), machine(0, "- . y", edges("0ax1 0bx2 1a1 1b2 2a1 2by2")...), "bb", false},
		// only a long word shows it
		{machine(4, "y - y - -", edges("0ayy4 0b1 1a3 1b2 2a3 2b3 3bxy3 4axy3 4b1")...), machine(2, "- - - - y", edges("0bxx2 1b4 2b1 3b0 4bxy3")...), "bbbbbbb", false},
	} {
		word, same, e := trans.Same(x.m, x.n)
		if word != x.word || same != x.same || e != api.OK {
			t.Errorf("%s and %s: %q, %v, %d", show(x.m), show(x.n), word, same, e)
		}
		if wantWord, wantSame := compared(x.m, x.n, 8); x.word != wantWord || x.same != wantSame {
			t.Errorf("%s and %s: by all words %q, %v", show(x.m), show(x.n), wantWord, wantSame)
		}
	}
}

// compared is what Same returns, by looking at all words of at most that length.
func compared(m, n trans.Machine, length int) (string, bool) {
	for _, w := range words(length) {
		if x, y := outputs(m, w), outputs(n, w); !slices.Equal(x, y) {
			return w, false
		}
	}
	return "", true
}

// someLike is like m, but for an output, or a state, or an end.
func someLike(random *rand.Rand, m trans.Machine) trans.Machine {
	n := trans.Machine{Start: m.Start, Edges: slices.Clone(m.Edges), Ends: slices.Clone(m.Ends)}
	if len(n.Edges) > 0 {
		e := &n.Edges[random.Intn(len(n.Edges))]
		if random.Intn(2) == 0 {
			e.Output = some(random, "xy", 2)
		} else {
			e.To = random.Intn(len(n.Ends))
		}
	}
	if random.Intn(3) == 0 {
		n.Ends[random.Intn(len(n.Ends))] = someEnds(random, 1, 1)[0]
	}
	return n
}

// someEqual has the same relation: the states have other numbers, some letters are written later, and there may be another state like one of them.
func someEqual(random *rand.Rand, m trans.Machine) trans.Machine {
	m = twice(random, m)
	late := make([]string, len(m.Ends))
	for q := range late {
		if q != m.Start {
			late[q] = lastLetters(random, m, q)
		}
	}
	n := trans.Machine{Ends: make([]trans.End, len(m.Ends))}
	number := random.Perm(len(m.Ends))
	n.Start = number[m.Start]
	for _, e := range m.Edges {
		e.Output = strings.TrimSuffix(late[e.From]+e.Output, late[e.To])
		e.From, e.To = number[e.From], number[e.To]
		n.Edges = append(n.Edges, e)
	}
	for q, end := range m.Ends {
		if end.Final {
			end.After = late[q] + end.After
		}
		n.Ends[number[q]] = end
	}
	n.Edges = sorted(n.Edges)
	return n
}

// lastLetters is a letter that each edge to a state writes last, or nothing.
func lastLetters(random *rand.Rand, m trans.Machine, q int) string {
	last := []string{"", "x", "y"}[random.Intn(3)]
	for _, e := range m.Edges {
		if e.To == q && (!strings.HasSuffix(e.Output, last) || e.From == q) {
			return ""
		}
	}
	return last
}

// twice has one more state, to which some of the edges to another one lead, if there is room for it.
func twice(random *rand.Rand, m trans.Machine) trans.Machine {
	more := len(m.Ends)
	if more == 5 {
		return m
	}
	of := random.Intn(more)
	n := trans.Machine{Start: m.Start, Ends: append(slices.Clone(m.Ends), m.Ends[of])}
	for _, e := range m.Edges {
		if e.From == of {
			copied := e
			copied.From = more
			n.Edges = append(n.Edges, copied)
		}
		if e.To == of && random.Intn(2) == 0 {
			e.To = more
		}
		n.Edges = append(n.Edges, e)
	}
	n.Edges = sorted(n.Edges)
	return n
}

// P3.3, P3.4: machines that are the same, or nearly so, or any. They are the same just if their first machines are, and Before.
func TestSameRandom(t *testing.T) {
	random := rand.New(rand.NewSource(38))
	found := map[bool]int{}
	longest := 0
	for i := range 3000 {
		m := someSequential(random, 1+random.Intn(4), 1+random.Intn(2))
		n := someSequential(random, 1+random.Intn(4), 1)
		if i%3 == 1 {
			n = someEqual(random, m)
		} else if i%3 == 2 {
			n = someEqual(random, someLike(random, m))
		}
		if trans.Check(n) != api.OK {
			continue
		}
		word, same, e := trans.Same(m, n)
		if wantWord, wantSame := compared(m, n, 7); word != wantWord || same != wantSame || e != api.OK {
			t.Fatalf("%s and %s: %q, %v, %d, not %q", show(m), show(n), word, same, e, wantWord)
		}
		if i%3 == 1 && !same {
			t.Fatalf("%s and %s differ in %q", show(m), show(n), word)
		}
		checkFirsts(t, m, n, same)
		found[same]++
		longest = max(longest, len(word))
	}
	if found[true] < 1000 || found[false] < 1000 || longest < 3 {
		t.Errorf("%v, %d", found, longest)
	}
}

// checkFirsts checks that Before and the first machines are the same, or are not.
func checkFirsts(t *testing.T, m, n trans.Machine, same bool) {
	t.Helper()
	before, first, e := trans.First(m)
	otherBefore, otherFirst, f := trans.First(n)
	if is := before == otherBefore && show(first) == show(otherFirst) && e == f; is != same {
		t.Fatalf("%s and %s: %q, %s and %q, %s", show(m), show(n), before, show(first), otherBefore, show(otherFirst))
	}
}

// P3.3: ErrArg if a machine is not sequential.
func TestNotSequential(t *testing.T) {
	for _, m := range []trans.Machine{forked(), twinless(), full(), machine(0, "- -", edges("1a0 1a1")...)} {
		word, same, e := trans.Same(m, plain())
		refused(t, "Same of "+show(m), api.ErrArg, e, word, same)
		word, same, e = trans.Same(plain(), m)
		refused(t, "Same after "+show(m), api.ErrArg, e, word, same)
		word, same, e = trans.Same(m, m)
		refused(t, "Same twice "+show(m), api.ErrArg, e, word, same)
		before, first, e := trans.First(m)
		refused(t, "First of "+show(m), api.ErrArg, e, before, first)
	}
}

// P3.3: first machines.
func TestFirst(t *testing.T) {
	for _, x := range []struct {
		m           trans.Machine
		before, out string
	}{
		{plain(), "", show(plain())}, {machine(0, "xyx"), "xyx", "0: ."}, {machine(1, "- . -", "0a0", "1a0", "1b2"), "", "0: ."},
		// letters are written as soon as they are known, before all if they are always the same
		{machine(0, "- .", edges("0axy1 1b1")...), "xy", "0: - ., 0a1, 1b1"}, {machine(0, "- - - x", edges("0axxx1 1ayyy2 2axyx3")...), "xxxyyyxyxx", "0: - - - ., 0a1, 1a2, 2a3"}, {machine(0, "- - x y", edges("0a1 1a2 1b3")...), "", "0: - - ., 0a1, 1ax2, 1by2"},
		{machine(0, "- - x y", edges("0axxx1 1axyx2 1bxyx3")...), "xxxxyx", "0: - - ., 0a1, 1ax2, 1by2"},
		{machine(0, "- xy - xxy", edges("0a1 0b2 2b3")...), "x", "0: - . -, 0ay1, 0bxy2, 2b1"},
		// a loop turns what it writes round
		{machine(0, "x", "0ayx0"), "", "0: x, 0ayx0"}, {machine(0, "x", "0axy0"), "x", "0: ., 0ayx0"}, {machine(0, "x", "0axx0"), "x", "0: ., 0axx0"}, {machine(0, "yx", "0ayxy0"), "yx", "0: ., 0ayyx0"}, {machine(0, "- xyx", edges("0a1 1axyx1")...), "xyx", "0: - ., 0a1, 1axyx1"},
		// states with the same relation are one; with another one they are not
		{machine(0, ". .", edges("0ax1 0by0 1ax0 1by1")...), "", "0: ., 0ax0, 0by0"}, {machine(0, ". .", edges("0ax1 0by0 1ax0 1by0")...), "", "0: ., 0ax0, 0by0"}, {machine(0, ". - .", edges("0a1 1b2 2ax1")...), "", "0: . - ., 0a1, 1b2, 2ax1"}, {machine(0, ". x .", edges("0a1 0b2")...), "", "0: . ., 0ax1, 0b1"}, {machine(0, ". x x", edges("0a1 0b2 1a1 2b2")...), "", "0: . . ., 0ax1, 0bx2, 1a1, 2b2"}, {machine(0, ". x x", edges("0a1 0b2 1a1 2ay2")...), "", "0: . . x, 0ax1, 0b2, 1a1, 2ay2"},
		// numbers in the order of the words
		{machine(2, ". x y", edges("0a0 2a1 2b0")...), "", "0: y . ., 0ax1, 0b2, 2a2"}, {machine(4, ". - - - -", edges("1a2 2bx0 3bxx1 4b3")...), "xxx", "0: - - - - ., 0b1, 1b2, 2a3, 3b4"}, {machine(0, "x . y yy", edges("0a3 0b2 3b1")...), "", "0: x yy ., 0a1, 0by2, 1b2"},
		// states that are not useful, and edges to them, are away
		{machine(3, "- . . .", edges("0ax1 1a0 2a1 2b0 3ax3 3by0")...), "", "0: . - ., 0ax0, 0byx1, 1a2, 2ax1"}, {machine(1, "- . .", edges("0a0 0bx0 1axxx0 1byyy1 2a1")...), "", "0: ., 0byyy0"},
	} {
		before, first, e := trans.First(x.m)
		if before != x.before || show(first) != x.out || e != api.OK {
			t.Errorf("%s: %q, %s, %d", show(x.m), before, show(first), e)
		}
		checkFirst(t, x.m)
	}
}

// P3.3: ErrNone for the empty relation.
func TestFirstNone(t *testing.T) {
	for _, m := range []trans.Machine{machine(0, "-"), machine(0, "- ."), machine(1, ". -", edges("0a1 1a1 1b1")...), machine(0, "- - .", edges("0ax1 1ay0 2a0")...)} {
		before, first, e := trans.First(m)
		refused(t, show(m), api.ErrNone, e, before, first)
	}
}

// relation is the outputs of a machine from a state on, for all words of at most 6 letters; of those that are not accepted it has none.
func relation(m trans.Machine, state int) map[string]string {
	m.Start = state
	out := map[string]string{}
	for _, w := range words(6) {
		if s, found := output(m, w); found {
			out[w] = s
		}
	}
	return out
}

// beginning is the longest common beginning of the outputs.
func beginning(relation map[string]string) string {
	out, first := "", true
	for _, s := range relation {
		if first {
			out, first = s, false
		}
		for !strings.HasPrefix(s, out) {
			out = out[:len(out)-1]
		}
	}
	return out
}

// checkFirst checks that First returns what the chapter defines.
func checkFirst(t *testing.T, m trans.Machine) {
	t.Helper()
	before, first, e := trans.First(m)
	given := relation(m, m.Start)
	if e != api.OK {
		if e != api.ErrNone || len(given) > 0 || before != "" || !reflect.DeepEqual(first, trans.Machine{}) {
			t.Fatalf("%s: %q, %s, %d", show(m), before, show(first), e)
		}
		return
	}
	rest := relation(first, first.Start)
	for w, s := range rest {
		rest[w] = before + s
	}
	if first.Start != 0 || !reflect.DeepEqual(given, rest) || !slices.EqualFunc(first.Edges, sorted(slices.Clone(first.Edges)), func(e, f trans.Edge) bool { return e == f }) {
		t.Fatalf("%s: %q, %s", show(m), before, show(first))
	}
	checkStates(t, m, first)
}

// checkStates checks that the states of a first machine are useful, differ, write early, and are in their order; and that there are no fewer than there must be.
func checkStates(t *testing.T, m, first trans.Machine) {
	t.Helper()
	var order []int
	for _, w := range words(5) {
		at, ok := first.Start, true
		for i := range len(w) {
			e := slices.IndexFunc(first.Edges, func(e trans.Edge) bool { return e.From == at && e.Letter == w[i] })
			if e < 0 {
				ok = false
				break
			}
			at = first.Edges[e].To
		}
		if ok && !slices.Contains(order, at) {
			order = append(order, at)
		}
	}
	seen := map[string]bool{}
	for q := range first.Ends {
		r := relation(first, q)
		if len(r) == 0 || beginning(r) != "" || seen[text(r)] || q >= len(order) || order[q] != q {
			t.Fatalf("%s: state %d of %s", show(m), q, show(first))
		}
		seen[text(r)] = true
	}
	if n := restsOf(m); n != len(first.Ends) {
		t.Fatalf("%s: %s has not %d states", show(m), show(first), n)
	}
}

// text is a relation as one string.
func text(relation map[string]string) string {
	out := ""
	for _, w := range words(6) {
		if s, found := relation[w]; found {
			out += w + "/" + s + " "
		}
	}
	return out
}

// restsOf counts what can be left of a machine's relation after a word, whatever it writes first: a sequential machine has a state at least for each of these.
func restsOf(m trans.Machine) int {
	all := words(9)
	out := map[string]bool{}
	outputOf := map[string]string{}
	for _, w := range all {
		if s, found := output(m, w); found {
			outputOf[w] = s
		}
	}
	for _, u := range words(4) {
		rest := map[string]string{}
		for _, v := range words(5) {
			if s, found := outputOf[u+v]; found {
				rest[v] = s
			}
		}
		c := beginning(rest)
		for v, s := range rest {
			rest[v] = s[len(c):]
		}
		if len(rest) > 0 {
			out[text(rest)] = true
		}
	}
	return len(out)
}

// P3.3, P3.4: first machines are what they are defined to be, and have the fewest states.
func TestFirstRandom(t *testing.T) {
	random := rand.New(rand.NewSource(39))
	sizes := map[int]int{}
	long := 0
	for i := range 600 {
		m := someSequential(random, 1+random.Intn(5), random.Intn(4))
		if i%2 == 0 {
			m = someEqual(random, m)
		}
		if trans.Check(m) != api.OK {
			continue
		}
		checkFirst(t, m)
		_, first, _ := trans.First(m)
		sizes[len(first.Ends)]++
		if slices.ContainsFunc(first.Edges, func(e trans.Edge) bool { return len(e.Output) > 3 }) {
			long++
		}
	}
	if len(sizes) != 6 || long == 0 {
		t.Errorf("%v, %d", sizes, long)
	}
}
