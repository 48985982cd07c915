package trans_test

import (
	"math/rand"
	"slices"
	"strings"
	"testing"

	"squeegee/api"
	"squeegee/trans"
)

// several reports whether a word has more than one output. It follows the runs that what comes after them can end: two outputs so far of one state are two of the word.
func several(m trans.Machine, w string) bool {
	list := map[ran]bool{{m.Start, ""}: true}
	for i := range len(w) {
		list = step(m, list, w[i])
		states := map[int]bool{}
		for r := range list {
			if !ends(m, r.state, w[i+1:]) {
				delete(list, r)
			} else if states[r.state] {
				return true
			} else {
				states[r.state] = true
			}
		}
	}
	all := map[string]bool{}
	for r := range list {
		if m.Ends[r.state].Final {
			all[r.output+m.Ends[r.state].After] = true
		}
	}
	return len(all) > 1
}

// ends reports whether w is accepted from a state.
func ends(m trans.Machine, state int, w string) bool {
	at := map[int]bool{state: true}
	for i := range len(w) {
		next := map[int]bool{}
		for _, e := range m.Edges {
			if at[e.From] && e.Letter == w[i] {
				next[e.To] = true
			}
		}
		at = next
	}
	for q := range at {
		if m.Ends[q].Final {
			return true
		}
	}
	return false
}

// checkFunctional checks a result of Functional, and returns whether the machine is functional.
func checkFunctional(t *testing.T, m trans.Machine) bool {
	t.Helper()
	word, is, e := trans.Functional(m)
	if e != api.OK || is && word != "" {
		t.Fatalf("%s: %q, %v, %d", show(m), word, is, e)
	}
	if !is && (len(word) > 60 || strings.Trim(word, "ab") != "" || !several(m, word)) {
		t.Fatalf("%s: %q has not several outputs", show(m), word)
	}
	return is
}

// P3.2: machines that are functional, and that are not.
func TestFunctional(t *testing.T) {
	for _, x := range []struct {
		m    trans.Machine
		want bool
	}{
		{plain(), true}, {forked(), false}, {twinless(), true}, {machine(0, "-"), true}, {machine(0, "xyx"), true}, {full(), false},
		// what is not accepted does not matter
		{machine(0, ". -", edges("0ax1 0ay1 0bx0 1a1")...), true}, {machine(0, ". .", edges("0a0 1ax0 1ay0")...), true}, {machine(0, "- -", edges("0ax0 0ay0")...), true},
		// the same output, written sooner or later
		{machine(0, "- y xy .", edges("0ax1 0a2 0axy3")...), true}, {machine(0, "- - - .", edges("0ax1 0axy2 1a3 2a3")...), false}, {machine(0, "- - - .", edges("0ax1 0axy2 1ay3 2a3")...), true}, {machine(0, "- - - .", edges("0ax1 0axy2 1ayy3 2a3")...), false},
		// only the ends differ
		{machine(0, "- x .", edges("0a1 0a2 1a1 2a2")...), false}, {machine(0, "- x x", edges("0a1 0a2 1a1 2a2")...), true}, {machine(0, "- x -", edges("0a1 0a2 1a1 2a2")...), true},
		// one writes before the other, and both as much on the loop
		{machine(0, "- . y", edges("0axy1 0ax2 1axy1 2ayx2")...), true}, {machine(0, "- . y", edges("0axy1 0ax2 1axy1 2axy2")...), false}, {machine(0, "- . x", edges("0ax1 0a2 1ax1 2ax2")...), true}, {machine(0, "- . x", edges("0ax1 0a2 1axx1 2ax2")...), false},
		// on the loop one writes, the other does not; it ends only after a letter b
		{machine(0, "- - - .", edges("0a1 0a2 1ax1 1b3 2a2 2b3")...), false}, {machine(0, "- - - .", edges("0a1 0a2 1ax1 1b3 2a2 2a3")...), true},
	} {
		if is := checkFunctional(t, x.m); is != x.want {
			t.Errorf("%s: %v", show(x.m), is)
		}
	}
}

// P3.2: a word with two outputs has at most 60 letters, also where the two runs differ only after long.
func TestLongWords(t *testing.T) {
	for _, m := range []trans.Machine{
		machine(1, "- x - - -", edges("0a4 1ay2 1by1 2a3 3ay0 4ayy1 4a2")...), // 25 letters at least
		machine(0, "- - . . -", edges("0ax1 0ax2 1ax0 1ax4 2ax3 2bx2 2by3 3ax2 4ay2")...),
	} {
		if checkFunctional(t, m) {
			t.Errorf("%s is functional", show(m))
		}
	}
}

// P3.2, P3.5: machines of two or three states that are not functional have a word of a few letters that shows it.
func TestFunctionalRandom(t *testing.T) {
	random := rand.New(rand.NewSource(34))
	all := words(7)
	found := map[bool]int{}
	longest := 0
	for range 2000 {
		m := someMachine(random, 1+random.Intn(3), 9, 1+random.Intn(2))
		if random.Intn(4) == 0 {
			m = someFunctional(random, 1+random.Intn(3), 7)
		}
		is := checkFunctional(t, m)
		word := slices.IndexFunc(all, func(w string) bool { return several(m, w) })
		if is != (word < 0) {
			t.Fatalf("%s: %v, but look at %q", show(m), is, all[max(word, 0)])
		}
		found[is]++
		if word >= 0 {
			longest = max(longest, len(all[word]))
		}
	}
	if found[true] < 400 || found[false] < 400 || longest < 5 {
		t.Errorf("%v, %d", found, longest)
	}
}

// larger machines, and machines that are functional as they are made.
func TestFunctionalLarge(t *testing.T) {
	random := rand.New(rand.NewSource(35))
	found := map[bool]int{}
	longest := 0
	for range 20000 {
		m := someMachine(random, 5, 8, 1)
		found[checkFunctional(t, m)]++
		word, _, _ := trans.Functional(m)
		longest = max(longest, len(word))
		if f := someFunctional(random, 5, 20); !checkFunctional(t, f) {
			t.Fatal(show(f))
		}
	}
	if found[true] < 1000 || found[false] < 1000 || longest < 7 {
		t.Errorf("%v, %d", found, longest)
	}
}

// both is where two runs of one word are, and what is left of both outputs after their longest common beginning.
type both struct {
	p, q        int
	left, right string
}

func (b both) more(e, f trans.Edge) both {
	out := both{e.To, f.To, b.left + e.Output, b.right + f.Output}
	for out.left != "" && out.right != "" && out.left[0] == out.right[0] {
		out.left, out.right = out.left[1:], out.right[1:]
	}
	return out
}

// loop is two runs of one word: where they are, and what they have written.
type loop both

func (l loop) more(e, f trans.Edge) loop {
	return loop{e.To, f.To, l.left + e.Output, l.right + f.Output}
}

// spread are two runs of each word of at most that length, from two states on, as more makes them longer; where tells where two runs are.
func spread[K comparable](m trans.Machine, length int, first K, where func(K) (int, int), more func(K, trans.Edge, trans.Edge) K) map[K]bool {
	out := map[K]bool{first: true}
	fresh := []K{first}
	for range length {
		var longer []K
		for _, k := range fresh {
			p, q := where(k)
			for _, e := range m.Edges {
				for _, f := range m.Edges {
					if e.From == p && f.From == q && e.Letter == f.Letter && !out[more(k, e, f)] {
						out[more(k, e, f)] = true
						longer = append(longer, more(k, e, f))
					}
				}
			}
		}
		fresh = longer
	}
	return out
}

// twins reports whether all u and w of at most that length keep the delay, by the definition.
func twins(m trans.Machine, length int) bool {
	useful := usefulByRuns(m)
	if !slices.Contains(useful, m.Start) {
		return true
	}
	m.Edges = slices.DeleteFunc(slices.Clone(m.Edges), func(e trans.Edge) bool { return !slices.Contains(useful, e.To) })
	for b := range spread(m, length, both{p: m.Start, q: m.Start}, func(b both) (int, int) { return b.p, b.q }, both.more) {
		for l := range spread(m, length, loop{p: b.p, q: b.q}, func(l loop) (int, int) { return l.p, l.q }, loop.more) {
			if l.p == b.p && l.q == b.q && b.more(trans.Edge{Output: l.left, To: b.p}, trans.Edge{Output: l.right, To: b.q}) != b {
				return false
			}
		}
	}
	return true
}

// P3.2: machines with twins, and without.
func TestTwins(t *testing.T) {
	for _, x := range []struct {
		m    trans.Machine
		want bool
	}{
		{plain(), true}, {twinless(), false}, {machine(0, "-"), true}, {machine(0, "."), true},
		// no loop
		{machine(0, "- - - .", edges("0ax1 0ay2 1a3 2b3")...), true},
		// after x and y, the loops write nothing
		{machine(0, "- - . .", edges("0ax1 0ay2 1a1 1b3 2a2")...), true}, {machine(0, "- - . .", edges("0ax1 0ay2 1ax1 1b3 2a2")...), false}, {machine(0, "- - . .", edges("0ax1 0ay2 1a1 1b3 2ay2")...), false},
		// after nothing, the loops write the same, or not
		{machine(0, "- - . .", edges("0a1 0a2 1ax1 1b3 2ax2")...), true}, {machine(0, "- - . .", edges("0a1 0a2 1ax1 1b3 2ay2")...), false}, {machine(0, "- - . .", edges("0a1 0a2 1ax1 1b3 2axx2")...), false}, {machine(0, "- - . .", edges("0a1 0a2 1ax1 1b3 2a2")...), false},
		// the one is ahead, and the loops write the same for ever, or not
		{machine(0, "- - . .", edges("0axy1 0ax2 1axy1 1b3 2ayx2")...), true}, {machine(0, "- - . .", edges("0axy1 0ax2 1axy1 1b3 2axy2")...), false}, {machine(0, "- - . .", edges("0ax1 0a2 1ayx1 1b3 2axy2")...), true}, {machine(0, "- - . .", edges("0axxx1 0a2 1ax1 1b3 2ax2")...), true}, {machine(0, "- - . .", edges("0axxy1 0a2 1ax1 1b3 2ax2")...), false},
		// ahead in two ways
		{machine(0, "- - . .", edges("0axx1 0ax2 0bx1 0bxx2 1ax1 1b3 2ax2")...), true}, {machine(0, "- - . .", edges("0axx1 0ax2 0bx1 0bxy2 1ax1 1b3 2ax2")...), false},
		// states that are not useful have no twins to keep to
		{machine(0, "- - . -", edges("0ax1 0ay2 1ax1 2ay2 3b3")...), true}, {machine(0, "- - . . .", edges("0ax1 1ax1 1b2 3ax3 4ay4")...), true}, {machine(0, "- . -", edges("0a0 0ax2 0bx1 2ay2")...), true},
		// a loop of two letters, on which only the whole is as long
		{machine(0, "- - . - .", edges("0axy1 0ax2 1axy3 1b4 2ayx2 3axy1")...), true}, {machine(0, "- - . - .", edges("0ax1 0ax2 1axx3 1b4 2ax2 3a1")...), true}, {machine(0, "- - . - .", edges("0ax1 0ax2 1axx3 1b4 2ax2 3ax1")...), false}, {machine(0, "- - . - .", edges("0ax1 0ax2 1axy3 1b4 2ax2 3a1")...), false},
		// no loop, but the runs write
		{machine(0, "- - . - -", edges("0ax1 0ay3 1ax2 3ay4 4b2")...), true}, {machine(0, "- - . - -", edges("0ax1 0ay3 0by1 0bx3 1ax2 3ay4 4b2")...), true},
		// far from the loop
		{machine(0, "- - - . .", edges("0ax1 0ay2 1a3 2b4 3ax3 4ay4")...), true}, {machine(0, "- - - . .", edges("0ax1 0ay2 1a3 2b4 3bx3 4by4")...), true},
	} {
		is, e := trans.Twins(x.m)
		if is != x.want || e != api.OK || is != twins(x.m, 6) {
			t.Errorf("%s: %v, %d; by the definition %v", show(x.m), is, e, twins(x.m, 6))
		}
	}
}

// P3.2: ErrMany for machines that are not functional, and for just those.
func TestTwinsMany(t *testing.T) {
	random := rand.New(rand.NewSource(36))
	for i := range 3000 {
		m := someMachine(random, 1+random.Intn(5), 10, 2)
		if i == 0 {
			m = forked()
		}
		has, e := trans.Twins(m)
		if !checkFunctional(t, m) {
			refused(t, show(m), api.ErrMany, e, has)
		} else if e != api.OK {
			t.Fatalf("%s: %d", show(m), e)
		}
	}
}

// someBranches are two sequential machines with words of their own, one after the other: words with b at the end go through the states 1 and 2 to 4, others through 3.
func someBranches(random *rand.Rand) trans.Machine {
	m := machine(0, "- - - . .")
	output := func() string { return []string{"", "x", "y", "xx", "xy", "yx"}[random.Intn(6)] }
	add := func(from int, letter byte, to int) {
		m.Edges = append(m.Edges, trans.Edge{From: from, Letter: letter, Output: output(), To: to})
	}
	left := 1 + random.Intn(2)
	for _, c := range []byte("ab")[:1+random.Intn(2)] {
		add(0, c, 1)
		add(0, c, 3)
	}
	add(1, 'a', left)
	if left == 2 {
		add(2, 'a', 1)
	}
	add(left, 'b', 4)
	add(3, 'a', 3)
	m.Edges = sorted(m.Edges)
	return m
}

// P3.2: twins by the definition.
func TestTwinsRandom(t *testing.T) {
	random := rand.New(rand.NewSource(37))
	found := map[bool]int{}
	for i := range 12000 {
		m := someMachine(random, 2+random.Intn(2), 7, 1)
		if i%3 == 1 {
			m = someFunctional(random, 2+random.Intn(2), 7)
		} else if i%3 == 2 {
			m = someBranches(random)
		}
		if seq, _ := trans.Sequential(m); seq || !checkFunctional(t, m) {
			continue
		}
		has, e := trans.Twins(m)
		if has != twins(m, 6) || e != api.OK {
			t.Fatalf("%s: %v, %d", show(m), has, e)
		}
		found[has]++
	}
	if found[true] < 1000 || found[false] < 1000 {
		t.Errorf("%v", found)
	}
}
