package modal_test

import (
	"fmt"
	"math/rand"
	"reflect"
	"slices"
	"strings"
	"testing"

	"squeegee/api"
	"squeegee/modal"
)

// P5.6: the chapter's formulas and others, with the classes in which they are valid.
func TestKripke(t *testing.T) {
	for f, want := range map[string]string{
		"(#(p>q)>(#p>#q))": "KT4S", "(#p>p)": "TS", "(#p>##p)": "4S", "(p>*p)": "TS", "(**p>*p)": "4S", "(#p>*p)": "TS", "(p>#*p)": "", "(*p>#*p)": "", "(#p|#!p)": "", "(#(p&q)>(#p&#q))": "KT4S", "((#p&#q)>#(p&q))": "KT4S", "(*(p|q)>(*p|*q))": "KT4S", "(#(p|q)>(#p|#q))": "", "(#!0>!*0)": "KT4S", "(##p>#p)": "TS", "(*#p>#*p)": "", "(#p>#*p)": "TS", "(#*#*p>#*p)": "4S", "(#*p>#*#*p)": "4S", "(#*p>#(q>*p))": "KT4S",
		"p": "", "(p>p)": "KT4S", "0": "", "!0": "KT4S", "#!0": "KT4S", "*!0": "TS", "(#(#p>p)>#p)": "", "(#(#p>q)|#(#q>p))": "", "!(p&!p)": "KT4S", "(p&!p)": "",
	} {
		for _, class := range []byte(classes) {
			if is := valid(t, f, class); is != (strings.IndexByte(want, class) >= 0) {
				t.Errorf("Valid of %s, %c: %v", f, class, is)
			}
		}
	}
}

// P5.6: a formula is valid just if ! with it is not satisfiable, also where ! makes it too long; and what is valid in a class is valid in the classes within it.
func TestValidLaws(t *testing.T) {
	random := rand.New(rand.NewSource(78))
	found := map[string]int{}
	for range 6000 {
		f := some(random, 5+random.Intn(56))
		if random.Intn(2) == 0 && len(f) <= 28 {
			f = "(" + f + "|!" + some(random, 28) + ")"
		}
		in := map[byte]bool{}
		out := ""
		for _, class := range []byte(classes) {
			in[class] = valid(t, f, class)
			if in[class] {
				out += string(class)
			}
			if len(f) < 60 && satisfied(t, "!"+f, class) == in[class] {
				t.Fatalf("%s, %c: valid %v", f, class, in[class])
			}
			if x, _ := parse(f); len(normalForm(negated(x)).String()) <= 60 && satisfied(t, normalForm(negated(x)).String(), class) == in[class] {
				t.Fatalf("%s, %c: valid %v", f, class, in[class])
			}
		}
		if in['K'] && (!in['T'] || !in['4']) || (in['T'] || in['4']) && !in['S'] {
			t.Fatalf("%s: %s", f, out)
		}
		found[out]++
	}
	if found["KT4S"] < 100 || found[""] < 100 || found["TS"] < 10 || found["4S"] < 1 {
		t.Error(found)
	}
}

// P5.3, W1: 60 bytes, for which ! with it would be too long.
func TestLongestValid(t *testing.T) {
	for f, want := range map[string]string{
		strings.Repeat("#", 57) + "!!0": "", strings.Repeat("#", 58) + "!0": "KT4S", "(" + strings.Repeat("#", 28) + "p>" + strings.Repeat("#", 27) + "p)": "TS", "(" + strings.Repeat("#", 27) + "p>" + strings.Repeat("#", 28) + "p)": "4S", "(" + strings.Repeat("*", 26) + "!p|" + strings.Repeat("#", 28) + "p)": "4S",
	} {
		if len(f) != 60 {
			t.Errorf("%s: %d bytes", f, len(f))
		}
		for _, class := range []byte(classes) {
			if is := valid(t, f, class); is != (strings.IndexByte(want, class) >= 0) {
				t.Errorf("Valid of %s, %c: %v", f, class, is)
			}
		}
	}
}

func alike(t *testing.T, m, n modal.Model, v, w int) bool {
	t.Helper()
	_, is, e := modal.Alike(m, n, v, w)
	if e != api.OK {
		t.Fatalf("Alike of %v, %v, %d, %d: %d", m, n, v, w, e)
	}
	return is
}

// P5.7: worlds are alike just if they have the same atoms and see worlds that are alike.
func TestHennessyMilner(t *testing.T) {
	random := rand.New(rand.NewSource(79))
	found := map[bool]int{}
	for range 1500 {
		m, n := someModel(random, 1+random.Intn(5), 35, "p"), someModel(random, 1+random.Intn(5), 35, "p")
		for v := range m.Sees {
			for w := range n.Sees {
				sees := func(v int) bool {
					return slices.ContainsFunc(n.Sees[w], func(u int) bool { return alike(t, m, n, v, u) })
				}
				isSeen := func(w int) bool {
					return slices.ContainsFunc(m.Sees[v], func(u int) bool { return alike(t, m, n, u, w) })
				}
				want := m.True[v] == n.True[w]
				for _, u := range m.Sees[v] {
					want = want && sees(u)
				}
				for _, u := range n.Sees[w] {
					want = want && isSeen(u)
				}
				is := alike(t, m, n, v, w)
				if is != want {
					t.Fatalf("Alike of %v, %v, %d, %d: %v", m, n, v, w, is)
				}
				found[is]++
			}
		}
	}
	if found[true] < 200 || found[false] < 200 {
		t.Error(found)
	}
}

// P5.5, P5.7: no formula that is not deeper than it says tells worlds apart.
func TestAlikeFormulas(t *testing.T) {
	random := rand.New(rand.NewSource(80))
	for range 3000 {
		m, n := someModel(random, 1+random.Intn(4), 40, "p"), someModel(random, 1+random.Intn(4), 40, "p")
		depth, is, _ := modal.Alike(m, n, 0, 0)
		for range 10 {
			f := some(random, 1+random.Intn(20))
			deep, _ := modal.Depth(f)
			x, _ := modal.Holds(m, 0, f)
			y, _ := modal.Holds(n, 0, f)
			if x != y && (is || deep < depth) {
				t.Fatalf("Alike of %v, %v: %d, %v, but %s", m, n, depth, is, f)
			}
		}
	}
}

// allCalls are all calls but IsProof.
func allCalls(f string, m modal.Model, world int, class byte) map[string]func() (result, api.Errno) {
	out := formulaCalls(f, m, class)
	for name, call := range modelCalls(m, world, class) {
		out[name+" of a model"] = call
	}
	return out
}

// P1, R2, R7: no call panics, whatever it is given, and all of them say the same when they are asked again.
func TestAnyData(t *testing.T) {
	random := rand.New(rand.NewSource(81))
	number := func() int { return random.Intn(7) - 2 }
	for range 4000 {
		m := modal.Model{}
		for range random.Intn(4) {
			m.Sees = append(m.Sees, []int{number(), number()}[:random.Intn(3)])
		}
		for range random.Intn(4) {
			m.True = append(m.True, strings.Repeat("pq\xffr", 3)[random.Intn(9):][:random.Intn(3)])
		}
		f := some(random, 1+random.Intn(62))
		if random.Intn(2) == 0 {
			f = strings.Repeat("#(p>\x00!*)&q|", 10)[random.Intn(9):][:random.Intn(90)]
		}
		for name, call := range allCalls(f, m, number(), (classes + "\x00kX")[random.Intn(7)]) {
			x, e := call()
			y, g := call()
			if !reflect.DeepEqual(x, y) || e != g {
				t.Fatalf("%s of %q, %v: %v, %d and %v, %d", name, f, m, x, e, y, g)
			}
			for _, part := range x {
				if e != api.OK && !isZero(part) {
					t.Fatalf("%s of %q, %v: %v, %d", name, f, m, x, e)
				}
			}
		}
		p := modal.Proof{Rule: number(), At: number(), Parts: make([]modal.Proof, random.Intn(4))}
		if modal.IsProof(f, p) != isProof(f, p) {
			t.Fatalf("IsProof of %q, %v", f, p)
		}
	}
}

// R4: arguments are not changed, nor what lies beyond their lengths.
func TestMemory(t *testing.T) {
	random := rand.New(rand.NewSource(82))
	for range 300 {
		m := someModel(random, 1+random.Intn(5), 40, "pqr")
		for w := range m.Sees {
			row := append(m.Sees[w], 99)
			m.Sees[w] = row[:len(row)-1]
		}
		sees, facts := append(m.Sees, []int{7}), append(m.True, "kept")
		m = modal.Model{Sees: sees[:len(sees)-1], True: facts[:len(facts)-1]}
		was := fmt.Sprint(sees, facts)
		for _, call := range allCalls(some(random, 20), m, 0, classes[random.Intn(4)]) {
			call()
		}
		for w := range m.Sees {
			if n := len(m.Sees[w]); m.Sees[w][:n+1][n] != 99 {
				t.Fatalf("%v: what lies beyond became %v", m, m.Sees[w][:n+1])
			}
		}
		if fmt.Sprint(sees, facts) != was {
			t.Fatalf("%s became %v, %v", was, sees, facts)
		}
	}
	for _, f := range []string{"((p|q)&(!p&!q))", "(#p&*(q&!p))"} {
		p, _ := refuted(t, f)
		was := fmt.Sprint(p)
		if modal.IsProof(f, p); fmt.Sprint(p) != was {
			t.Errorf("%s became %v", was, p)
		}
	}
}

// R4: results share memory with nothing, and no two slices of a result do.
func TestResults(t *testing.T) {
	random := rand.New(rand.NewSource(83))
	for range 300 {
		f, class := some(random, 40), classes[random.Intn(4)]
		m, _, _ := modal.Satisfy(f, class)
		for w := range m.Sees {
			was := fmt.Sprint(m.Sees[:w], m.Sees[w+1:])
			_ = append(m.Sees[w], -1)
			for i := range m.Sees[w] {
				m.Sees[w][i] = -1
			}
			if fmt.Sprint(m.Sees[:w], m.Sees[w+1:]) != was {
				t.Fatalf("Satisfy of %s, %c: worlds share memory", f, class)
			}
		}
		satisfied(t, f, class)
		p, ok := refuted(t, f)
		if !ok {
			continue
		}
		spoil(t, &p, map[*modal.Proof]bool{})
		refuted(t, f)
	}
}

// spoil changes all of a proof, and finds parts that are there twice.
func spoil(t *testing.T, p *modal.Proof, seen map[*modal.Proof]bool) {
	t.Helper()
	if seen[p] {
		t.Fatal("parts share memory")
	}
	seen[p] = true
	p.Rule = -1
	for i := range p.Parts {
		spoil(t, &p.Parts[i], seen)
	}
}
