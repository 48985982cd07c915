package modal_test

import (
	"math/rand"
	"strings"
	"testing"

	"squeegee/api"
	"squeegee/modal"
)

// checkFormula compares what Check, Depth and Normal say with the definitions.
func checkFormula(t *testing.T, f string) {
	t.Helper()
	x, ok := parse(f)
	if !ok || len(f) > 60 {
		refused(t, f, api.ErrFormula, formulaCalls(f, model("p:0"), 'K'))
		if modal.IsProof(f, modal.Proof{}) {
			t.Errorf("IsProof of %q", f)
		}
		return
	}
	if e := modal.Check(f); e != api.OK {
		t.Fatalf("Check of %q: %d", f, e)
	}
	if d, e := modal.Depth(f); d != x.depth() || e != api.OK {
		t.Fatalf("Depth of %q: %d, %d", f, d, e)
	}
	if n, e := modal.Normal(f); n != normalForm(x).String() || e != api.OK {
		t.Fatalf("Normal of %q: %q, %d", f, n, e)
	}
}

// P5.1: what formulas are.
func TestFormulas(t *testing.T) {
	for _, f := range []string{
		"p", "q", "r", "0", "!p", "!0", "#p", "*q", "(p&q)", "(p|q)", "(p>q)", "!!p", "#*#*p", "((p&q)|r)", "(#(p>q)>(#p>#q))", "#(p&!(q|0))", strings.Repeat("!", 59) + "p", strings.Repeat("(p&", 14) + "p" + strings.Repeat(")", 14),
		"", " ", "s", "P", "1", "x", "p ", " p", "(p)", "()", "p&q", "pp", "p!", "!", "#", "*", "&", "(", ")", "(p", "p)", "(p&q", "p&q)", "(p&q))", "((p&q)", "((p&q))", "(p&q&r)", "(p&)", "(&p)", "(p&&q)", "(pq)", "(p!q)", "(p#q)", "(p*q)", "(p-q)", "(p<q)", "p>q", "(p>q)r", "(p>q)(p>q)", "!(p)", "#()", "(p&q)>r",
		"\x00", "p\x00", "\xff", "(p\xffq)", "é", "(p∧q)", "\ufffd", "p\n",
		strings.Repeat("!", 60) + "p", strings.Repeat("(p&", 15) + "p" + strings.Repeat(")", 15), strings.Repeat("p", 60), strings.Repeat("(", 60), strings.Repeat("#", 60), strings.Repeat(")", 1000000), strings.Repeat("#", 1000000) + "p",
	} {
		checkFormula(t, f)
	}
}

// P5.1: all strings of at most four signs, with one more that is none.
func TestShortStrings(t *testing.T) {
	list := []string{""}
	for i := 0; i < len(list); i++ {
		for _, c := range "pqr0!#*()&|>x" {
			if len(list[i]) < 4 {
				list = append(list, list[i]+string(c))
			}
		}
	}
	for _, f := range list {
		_, ok := parse(f)
		if e := modal.Check(f); (e == api.OK) != ok || e != api.OK && e != api.ErrFormula {
			t.Fatalf("Check of %q: %d", f, e)
		}
		if ok {
			checkFormula(t, f)
		}
	}
}

// P5.1: formulas of any length, and strings that differ from one in a character.
func TestSomeFormulas(t *testing.T) {
	random := rand.New(rand.NewSource(71))
	for range 3000 {
		f := some(random, 1+random.Intn(64))
		checkFormula(t, f)
		at := random.Intn(len(f))
		checkFormula(t, f[:at]+f[at+1:])
		checkFormula(t, f[:at]+sign(random, "pqr0!#*()&|>")+f[at+1:])
	}
}

// P5.1: depths.
func TestDepth(t *testing.T) {
	for f, want := range map[string]int{"p": 0, "!0": 0, "#p": 1, "!*p": 1, "#*p": 2, "(#p&**q)": 2, "(#p>#p)": 1, "#(p|#(q&*r))": 3, "!#!#!p": 2, strings.Repeat("#", 59) + "p": 59} {
		if d, e := modal.Depth(f); d != want || e != api.OK {
			t.Errorf("Depth of %s: %d, %d", f, d, e)
		}
	}
}

// P5.1: normal forms. One may have more than 60 bytes.
func TestNormal(t *testing.T) {
	long := strings.Repeat("(p&", 14) + "p" + strings.Repeat(")", 14)
	for f, want := range map[string]string{
		"p": "p", "!p": "!p", "0": "0", "!0": "!0", "!!0": "0", "!!!q": "!q", "(p>q)": "(!p|q)", "!(p>q)": "(p&!q)", "!(p&q)": "(!p|!q)", "!(p|q)": "(!p&!q)", "!#p": "*!p", "!*p": "#!p", "!#!p": "*p", "#!!p": "#p",
		"((p>q)>r)": "((p&!q)|r)", "!(#(p>q)>(#p>#q))": "(#(!p|q)&(#p&*!q))", "(#p>p)": "(*!p|p)", "!((p&0)|*!r)": "((!p|!0)&#r)", "!" + long: strings.Repeat("(!p|", 14) + "!p" + strings.Repeat(")", 14),
	} {
		if n, e := modal.Normal(f); n != want || e != api.OK {
			t.Errorf("Normal of %s: %s, %d", f, n, e)
		}
	}
}
