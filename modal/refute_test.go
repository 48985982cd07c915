package modal_test

import (
	"math/rand"
	"slices"
	"strings"
	"testing"

	"squeegee/api"
	"squeegee/modal"
)

// proves checks a proof by the definition: the formulas of the list are written as strings.
func proves(p modal.Proof, list []string) bool {
	if p.Rule == 0 {
		closed := slices.Contains(list, "0")
		for _, a := range []string{"p", "q", "r"} {
			closed = closed || slices.Contains(list, a) && slices.Contains(list, "!"+a)
		}
		return closed && p.At == 0 && len(p.Parts) == 0
	}
	if p.At < 0 || p.At >= len(list) {
		return false
	}
	x, _ := parse(list[p.At])
	var next [][]string
	switch {
	case p.Rule == 1 && x.sign == '&':
		next = [][]string{exchange(list, p.At, x.parts...)}
	case p.Rule == 2 && x.sign == '|':
		next = [][]string{exchange(list, p.At, x.parts[0]), exchange(list, p.At, x.parts[1])}
	case p.Rule == 3 && x.sign == '*':
		there := []string{x.parts[0].String()}
		for _, f := range list {
			if f[0] == '#' && !slices.Contains(there, f[1:]) {
				there = append(there, f[1:])
			}
		}
		next = [][]string{there}
	}
	if next == nil || len(p.Parts) != len(next) {
		return false
	}
	for i, part := range p.Parts {
		if !proves(part, next[i]) {
			return false
		}
	}
	return true
}

// exchange puts others where a formula of a list is, and leaves out what occurs a second time.
func exchange(list []string, at int, others ...tree) []string {
	var all, out []string
	for i, f := range list {
		if i != at {
			all = append(all, f)
			continue
		}
		for _, x := range others {
			all = append(all, x.String())
		}
	}
	for _, f := range all {
		if !slices.Contains(out, f) {
			out = append(out, f)
		}
	}
	return out
}

// isProof says by the definition what IsProof should say.
func isProof(f string, p modal.Proof) bool {
	x, ok := parse(f)
	return ok && len(f) <= 60 && proves(p, []string{normalForm(x).String()})
}

// size returns the nodes and the levels of a proof.
func size(p modal.Proof) (nodes, levels int) {
	for _, part := range p.Parts {
		n, l := size(part)
		nodes += n
		levels = max(levels, l)
	}
	return nodes + 1, levels + 1
}

// proof reads a proof: a rule, the index, and its parts one after the other.
func proof(s string) modal.Proof {
	p, _ := cutProof(strings.ReplaceAll(s, " ", ""))
	return p
}

func cutProof(s string) (modal.Proof, string) {
	p := modal.Proof{Rule: int(s[0] - '0'), At: int(s[1] - '0')}
	s = s[2:]
	for range []int{0, 1, 2, 1}[p.Rule] {
		part, rest := cutProof(s)
		p.Parts = append(p.Parts, part)
		s = rest
	}
	return p, s
}

// refuted returns what Refute says, and checks its proof.
func refuted(t *testing.T, f string) (modal.Proof, bool) {
	t.Helper()
	p, ok, e := modal.Refute(f)
	nodes, levels := size(p)
	switch {
	case e != api.OK || ok == satisfied(t, f, 'K'):
		t.Fatalf("Refute of %s: %v, %d", f, ok, e)
	case !ok && !isZero(p):
		t.Fatalf("Refute of %s: %v, false", f, p)
	case ok && (nodes > 5000 || levels > 300 || !isProof(f, p) || !modal.IsProof(f, p)):
		t.Fatalf("Refute of %s: %v", f, p)
	}
	return p, ok
}

// P5.4: proofs of all short formulas, and of longer ones.
func TestRefute(t *testing.T) {
	for _, list := range allFormulas(7) {
		for _, f := range list {
			refuted(t, f)
		}
	}
	random := rand.New(rand.NewSource(75))
	found := map[bool]int{}
	for range 20000 {
		_, ok := refuted(t, some(random, 5+random.Intn(56)))
		found[ok]++
	}
	if found[true] < 500 || found[false] < 500 {
		t.Error(found)
	}
}

// P5.4: the formulas with the largest proofs that are known, and the one with the most leaves.
func TestLargeProofs(t *testing.T) {
	for _, f := range []string{
		"(***************0&(((p>r)&((p>(p>q))&(q|(q|q))))&(p>(p>r))))", "((p&(!p&((p|(q|r))&(p|(q|r)))))&((p|(q|r))&(p|(q|r))))", "((p|(q|r))&((p|(q|#0))&((q|(r|#0))&((p|(r|#0))&0))))", strings.Repeat("*", 59) + "0", "!" + strings.Repeat("#", 57) + "!0",
		"((p|q)&((p|!q)&((!p|r)&(!p|!r))))", "(#(p|q)&(#(p|!q)&(*(r|p)&#(!p&(q|r)))))", "(*(p|q)&(*(p|r)&(#(!p&!q)&#!r)))", "((*p|*q)&((*r|*p)&(#!p&(#!q&#!r))))",
	} {
		refuted(t, f)
	}
}

// P5.4: proofs, and what is like one.
func TestIsProof(t *testing.T) {
	for _, x := range []struct {
		f, p string
		want bool
	}{
		// the chapter's example, and parts of it
		{"(*p&#!p)", "10 30 00", true}, {"(*p&#!p)", "10 31 00", false}, {"(*p&#!p)", "30 00", false}, {"(*p&#!p)", "10 00", false}, {"(*p&#!p)", "11 30 00", false}, {"(*p&#!p)", "10 30 01", false}, {"(*p&#!p)", "00", false}, {"(*p&*!p)", "10 30 00", false},
		// 0, and an atom with ! before it; ! before 0 is none
		{"0", "00", true}, {"0", "01", false}, {"!0", "00", false}, {"!!0", "00", true}, {"p", "00", false}, {"(p&!p)", "10 00", true}, {"(!q&q)", "10 00", true}, {"(p&!q)", "10 00", false}, {"(p&p)", "10 00", false}, {"(0&!0)", "10 00", true}, {"(#p&!#p)", "10 00", false}, {"(#p&!#p)", "10 31 00", true},
		// the other signs are brought into the normal form
		{"!(p>p)", "10 00", true}, {"!(p|!p)", "10 00", true}, {"!(!p>!p)", "10 00", true}, {"!(*p>*p)", "10 30 00", true}, {"(p>0)", "20 00 00", false},
		// both parts are needed, in their order
		{"((p|q)&(!p&!q))", "10 20 11 00 11 00", true}, {"((p|q)&(!p&!q))", "10 11 20 00 00", true}, {"((p|q)&(!p&!q))", "10 11 10 00", false}, {"(0|(p&!p))", "20 00 10 00", true}, {"(0|(p&!p))", "20 10 00 00", false}, {"(0|p)", "20 00 00", false},
		// what occurs a second time is left out there
		{"((q&q)&*0)", "10 10 31 00", true}, {"((q&q)&*0)", "10 10 32 00", false}, {"(*0&(q&*0))", "10 11 30 00", true}, {"(*0&(q&*0))", "10 11 32 00", false}, {"(*0&(q&*0))", "10 11 31 00", false}, {"((p&q)&(q&*0))", "10 10 12 32 00", true}, {"((p&q)&(q&*0))", "10 10 12 33 00", false}, {"((p|q)&((q|r)&*0))", "10 11 20 21 32 00 32 00 21 31 00 32 00", true},
		{"(*(q&0)&(#(q&0)&#(p&0)))", "10 11 30 11 00", true}, {"(*(q&0)&(#(q&0)&#(p&0)))", "10 11 30 12 00", false},
		// F comes first, then what is necessary, in its order
		{"(#(p&0)&(*q&#(r&p)))", "10 11 31 11 00", true}, {"(#(p&0)&(*q&#(r&p)))", "10 11 31 12 00", false}, {"(#(p&0)&(*q&#(r&p)))", "10 11 31 10 00", false}, {"(*!p&##p)", "10 30 00", false}, {"(p&*!p)", "10 31 00", false},
		// a rule for another sign
		{"(0&p)", "20 00 00", false}, {"(0|0)", "10 00", false}, {"#0", "30 00", false}, {"*0", "10 00", false}, {"*0", "30 00", true},
		// not a formula
		{"(*p&#!p", "10 30 00", false}, {"", "00", false}, {"00", "00", false}, {strings.Repeat("*", 60) + "0", strings.Repeat("30", 60) + "00", false}, {strings.Repeat("*", 59) + "0", strings.Repeat("30", 59) + "00", true},
	} {
		p := proof(x.p)
		if is := modal.IsProof(x.f, p); is != x.want || is != isProof(x.f, p) {
			t.Errorf("IsProof of %s, %s: %v", x.f, x.p, is)
		}
	}
}

// P5.4: parts that are missing or too many, and numbers out of range.
func TestNoProof(t *testing.T) {
	leaf := modal.Proof{}
	for _, p := range []modal.Proof{
		{Parts: []modal.Proof{leaf}}, {Rule: 1}, {Rule: 1, Parts: []modal.Proof{leaf, leaf}}, {Rule: 1, At: -1, Parts: []modal.Proof{leaf}}, {Rule: 1, At: 1, Parts: []modal.Proof{leaf}}, {Rule: 1, At: 1 << 62, Parts: []modal.Proof{leaf}}, {Rule: 1, At: -1 << 63, Parts: []modal.Proof{leaf}},
		{Rule: 4, Parts: []modal.Proof{leaf}}, {Rule: -1, Parts: []modal.Proof{leaf}}, {Rule: 1 << 62}, {Rule: -1 << 63}, {Rule: 1, Parts: make([]modal.Proof, 1000000)},
	} {
		if modal.IsProof("(p&!p)", p) {
			t.Errorf("IsProof of %d, %d, %d parts", p.Rule, p.At, len(p.Parts))
		}
	}
	for _, p := range []modal.Proof{{Rule: 2}, {Rule: 2, Parts: []modal.Proof{leaf}}, {Rule: 2, Parts: []modal.Proof{leaf, leaf, leaf}}} {
		if modal.IsProof("(0|0)", p) || !modal.IsProof("(0|0)", proof("20 00 00")) {
			t.Errorf("IsProof of %v", p)
		}
	}
}

// P1: a proof that contains itself, and one with more nodes than anyone can count.
func TestEndlessProof(t *testing.T) {
	for rule := range 4 {
		inside := make([]modal.Proof, []int{0, 1, 2, 1}[rule])
		for i := range inside {
			inside[i] = modal.Proof{Rule: rule, Parts: inside}
		}
		p := modal.Proof{Rule: rule, Parts: inside}
		for range 100 {
			p = modal.Proof{Rule: 2, Parts: []modal.Proof{p, p}}
		}
		for _, f := range []string{"(p&!p)", "*0", strings.Repeat("*", 59) + "0", strings.Repeat("(p|", 14) + "0" + strings.Repeat(")", 14), strings.Repeat("(p&", 14) + "0" + strings.Repeat(")", 14)} {
			if modal.IsProof(f, p) || rule > 0 && modal.IsProof(f, inside[0]) {
				t.Errorf("IsProof of %s, rule %d", f, rule)
			}
		}
	}
}

// changed changes a number or the parts somewhere in a copy of a proof.
func changed(random *rand.Rand, p modal.Proof) modal.Proof {
	p.Parts = slices.Clone(p.Parts)
	if len(p.Parts) > 0 && random.Intn(3) > 0 {
		i := random.Intn(len(p.Parts))
		p.Parts[i] = changed(random, p.Parts[i])
		return p
	}
	switch random.Intn(5) {
	case 0:
		p.Rule = random.Intn(5)
	case 1:
		p.At += random.Intn(5) - 2
	case 2:
		p.Parts = append(p.Parts, modal.Proof{})
	case 3:
		if len(p.Parts) > 0 {
			return p.Parts[0]
		}
	case 4:
		slices.Reverse(p.Parts)
	}
	return p
}

// P5.4: proofs of other formulas, and proofs with a change.
func TestChangedProofs(t *testing.T) {
	random := rand.New(rand.NewSource(76))
	found := map[bool]int{}
	last := modal.Proof{}
	for range 20000 {
		f := some(random, 5+random.Intn(40))
		p, ok := refuted(t, f)
		if !ok {
			p = last
		}
		last = p
		q := changed(random, p)
		is := modal.IsProof(f, q)
		if is != isProof(f, q) || modal.IsProof(f, p) != isProof(f, p) {
			t.Fatalf("IsProof of %s, %v: %v", f, q, is)
		}
		found[is]++
	}
	if found[true] < 20 {
		t.Error(found)
	}
}
