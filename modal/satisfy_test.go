package modal_test

import (
	"math/rand"
	"strings"
	"testing"

	"squeegee/api"
	"squeegee/modal"
)

// types are the ways in which a world can make the atoms and the formulas #F and *F among the parts of a formula true: sets of numbers of these.
type types struct {
	class   byte
	numbers map[string]int
	modals  []tree
	left    map[int]bool // the types that there may be
}

func (y *types) collect(x tree) {
	for _, part := range x.parts {
		y.collect(part)
	}
	if _, found := y.numbers[x.String()]; !found && strings.IndexByte("pqr#*", x.sign) >= 0 {
		y.numbers[x.String()] = len(y.numbers)
		if len(x.parts) > 0 {
			y.modals = append(y.modals, x)
		}
	}
}

// is tells whether x is true in a world of a type.
func (y *types) is(kind int, x tree) bool {
	switch x.sign {
	case '0':
		return false
	case '!':
		return !y.is(kind, x.parts[0])
	case '&':
		return y.is(kind, x.parts[0]) && y.is(kind, x.parts[1])
	case '|':
		return y.is(kind, x.parts[0]) || y.is(kind, x.parts[1])
	case '>':
		return !y.is(kind, x.parts[0]) || y.is(kind, x.parts[1])
	}
	return kind>>y.numbers[x.String()]&1 == 1
}

// maySee tells whether a world of a type may see one of another type.
func (y *types) maySee(kind, other int) bool {
	for _, x := range y.modals {
		all := x.sign == '#'
		if y.is(kind, x) == all && (y.is(other, x.parts[0]) != all || (y.class == '4' || y.class == 'S') && y.is(other, x) != all) {
			return false
		}
	}
	return true
}

// sees tells whether a world of a type can see what it must.
func (y *types) sees(kind int) bool {
	for _, x := range y.modals {
		all := x.sign == '#'
		if y.is(kind, x) == all {
			continue
		}
		found := false
		for other := range y.left {
			found = found || y.is(other, x.parts[0]) != all && y.maySee(kind, other)
		}
		if !found {
			return false
		}
	}
	return true
}

// possible decides whether x is satisfiable in a class, or returns false as ok if that takes too long.
func possible(x tree, class byte, most int) (is, ok bool) {
	y := &types{class: class, numbers: map[string]int{}, left: map[int]bool{}}
	y.collect(x)
	if len(y.numbers) > most {
		return false, false
	}
	for kind := range 1 << len(y.numbers) {
		if class == 'K' || class == '4' || y.maySee(kind, kind) {
			y.left[kind] = true
		}
	}
	for again := true; again; {
		again = false
		for kind := range y.left {
			if !y.sees(kind) {
				delete(y.left, kind)
				again = true
			}
		}
	}
	for kind := range y.left {
		is = is || y.is(kind, x)
	}
	return is, true
}

// checkSatisfying compares Satisfy and Valid with the decision by types.
func checkSatisfying(t *testing.T, f string, class byte, most int) (is, ok bool) {
	t.Helper()
	x, _ := parse(f)
	is, ok = possible(x, class, most)
	if !ok {
		return false, false
	}
	if satisfied(t, f, class) != is {
		t.Fatalf("Satisfy of %s, %c: %v", f, class, !is)
	}
	always, _ := possible(negated(x), class, most)
	if valid(t, f, class) == always {
		t.Fatalf("Valid of %s, %c: %v", f, class, always)
	}
	return is, true
}

// P5.3: all short formulas.
func TestShortFormulas(t *testing.T) {
	for _, list := range allFormulas(6) {
		for _, f := range list {
			for _, class := range []byte(classes) {
				checkSatisfying(t, f, class, 8)
			}
		}
	}
}

// P5.3: longer ones.
func TestSomeSatisfying(t *testing.T) {
	random := rand.New(rand.NewSource(73))
	found := map[bool]int{}
	for range 12000 {
		f := some(random, 10+random.Intn(30))
		if is, ok := checkSatisfying(t, f, classes[random.Intn(4)], 6); ok {
			found[is]++
		}
	}
	if found[true] < 1000 || found[false] < 300 {
		t.Error(found)
	}
}

// P5.3: formulas as long as they may be: a model makes them true, and what has none is not true in any model of the class.
func TestLongFormulas(t *testing.T) {
	random := rand.New(rand.NewSource(74))
	found := map[bool]int{}
	for range 3000 {
		f := some(random, 60)
		for _, class := range []byte(classes) {
			is := satisfied(t, f, class)
			found[is]++
			m := completed(someModel(random, 1+random.Intn(5), random.Intn(60), "pqr"), class)
			if !is {
				for w := range m.Sees {
					if holds, _ := modal.Holds(m, w, f); holds {
						t.Fatalf("Satisfy of %s, %c: not even %v, %d", f, class, m, w)
					}
				}
			}
			if always := valid(t, f, class); always {
				for w := range m.Sees {
					if holds, _ := modal.Holds(m, w, f); !holds {
						t.Fatalf("Valid of %s, %c: but %v, %d", f, class, m, w)
					}
				}
			}
		}
	}
	if found[true] < 1000 || found[false] < 500 {
		t.Error(found)
	}
}

// P5.3: the chapter's examples, and others: the classes in which they are satisfiable.
func TestSatisfy(t *testing.T) {
	for f, want := range map[string]string{
		"p": "KT4S", "0": "", "!0": "KT4S", "(p&!p)": "", "(*p&#!p)": "", "(*p&*!p)": "KT4S", "(*p&#0)": "", "#0": "K4", "*0": "", "(p&#!p)": "K4", "(#*p&*#!p)": "", "(*##p&!p)": "KT4S", "(#p&!p)": "K4",
		"(#p&*!p)": "", "(#p&**!p)": "KT", "(##p&*!p)": "K4", "(##p&*#0)": "K4", "(#*!0&*p)": "KT4S", "(*!0&#*!0)": "KT4S", "((p&*(!p&*p))&#(p>#p))": "K4", "(#(p>*q)&#(q>*p))": "KT4S", "(#*p&#*!p)": "KT4S",
		"(*(p&*!p)&#*(p&*#!p))": "KT", "((#(p>#p)&#(!p>*p))&(!p&#!p))": "K4", "(!p&#(!p>#!p))": "KT4S", "(!p&(#(!p>#!p)&**p))": "K4", "((!p&#!p)&**p)": "KT",
		// where worlds are to see one another, which only turns out to be impossible later
		"(#(*#**p|*!0)&*##**0)": "K", "####(*#(*q|***q)&(*#0|!q))": "K4", "(*##*r&(#***0|(p&q)))": "KT4S",
	} {
		for _, class := range []byte(classes) {
			if is := satisfied(t, f, class); is != (strings.IndexByte(want, class) >= 0) {
				t.Errorf("Satisfy of %s, %c: %v", f, class, is)
			}
			if always := valid(t, "!"+f, class); always != (strings.IndexByte(want, class) < 0) {
				t.Errorf("Valid of !%s, %c: %v", f, class, always)
			}
		}
	}
}

// P5.3: formulas for which a search that trusts what is not decided yet, and does not come back to it, returns what is no model.
func TestTrust(t *testing.T) {
	for _, f := range []string{
		"(*(((*r|(r|0))&##*r)&(*#!*0>!0))|*r)", "(!##r&!**((#(##r|#*r)>(*p&(!!#r&#**p)))>##!r))", "!(#((#!(r|*p)|##p)&**#q)|((*!r|*##(p|#r))&(##*0>#**r)))", "#(((**p|#((p&*!r)&p))|*##!#***0)>(0|#!*#q))", "(*!(#q&0)&#((((*0>#q)&#*p)|((r|!#r)>(*#*q&*#!#q)))&#**#*0))",
		"((#(*((0|#p)|**p)|((!#0|!!0)|#q))|#(#**q|##!q))&*#(p&*!#*p))", "(!(#(##!q&!#r)&((r>p)&p))&(###**0&#(*#*(#**p|0)|(#0|#*q))))", "((q&*(q&r))&(##*!q&#(***0|!p)))", "*(!(!(#*p>!r)&0)&(r&(r|!#*p)))", "*(((!(#*p>!r)&0)&(r&(r|!#*p)))|*#(!#(!*r&!(**r|#q))&***0))", "((*(p|!*!p)|(!q&*#0))&#((*q|#!#r)&*(**0|*0)))",
	} {
		for _, class := range []byte(classes) {
			if is, always := satisfied(t, f, class), valid(t, f, class); always && !is {
				t.Errorf("%s, %c: valid and not satisfiable", f, class)
			}
		}
	}
}

// P5.3: world 0 of a model sees two others, as in the chapter's example.
func TestTwoWorlds(t *testing.T) {
	m, ok, e := modal.Satisfy("(*p&*!p)", 'K')
	if !ok || e != api.OK || len(m.Sees[0]) < 2 {
		t.Errorf("Satisfy: %v, %v, %d", m, ok, e)
	}
	if n, ok, e := modal.Satisfy(strings.Repeat("*", 59)+"p", 'K'); !ok || e != api.OK || modal.CheckModel(n) != api.OK {
		t.Errorf("Satisfy: %v, %v, %d", n, ok, e)
	}
}

// P5.3: formulas for which there may be thousands of worlds: in K if each of them does as much as it can, in T, 4 and S if none of them does more than it must.
func TestSmallModels(t *testing.T) {
	for _, f := range []string{
		"########((#*####*r|r)&##(*######*##(*q&###*#*#r)&#*#####*p))", "(**#******(###*#####*(##*####*###*r&*q)>#***#****#**#*0)>0)", "#!(****(*(!(*###(p|##*##q)&(#*###*##*r|r))|#****#**p)|#r)|p)",
		"##(***(#******#*****#p|**(#*####*##q>#****#***#**!#*#r))>0)", "######*#*#**###(##(#***##q&*#p)&*##**#(###**#*##!#*##*p&!q))", "####*##*##*#((*###r|r)&*##*####(**##*#!***(###*p&*(r&p))&p))",
		"(#((#*####*#r&(#*##*#q&#*#*####p))>#*###*##*******!####q)>p)", "*((#*####(##(##*#*p|##*#*#*!*#*#q)|##*#*##*#*0)|*!**#*#r)>0)", "((*(#(***#**#*#q>(*#**#*#*#r>0))|####*##*#*#p)|##*#*#*0)>r)", "(#(p|##########################################!*#(#p|p))>p)",
		"((!#*q&(***(!*##*##*#*#*p|p)&!##*#p))&(**#**#*#r&*#*#!#*#0))", "#***(#####((#*#*#*#*p|(*!*r>###(*#*#q>#*##*#*0)))|#*#*#p)>0)", "#((**(*#*(#*#*r|r)&*****(*#*#p&*#*#*q))&*#*#**#q)&*#*#*#*#r)", "#*******(*#*#*#*p&***********(****(#*#*#q&*#*#*#p)&*#*#*#r))",
		"#**(***((##*!#*#*##*####r|*(#*###****r|#*****#*r))|##**0)>p)",
		"######(*(####((###*p|q)&(##*0|r))&#p)&(#p>##(!#r|#######q)))", "((*q&*######q)&(*#######q&#(*******p&(*******r&******!#r))))", "(#*#((*#p|((###*q&#*0)>*#*#*#*q))&(**#*0|(#*#p>#(r|#r))))|q)",
	} {
		for _, class := range []byte(classes) {
			satisfied(t, f, class)
			valid(t, f, class)
		}
	}
}

// P5.3: classes that are none, after formulas that are none.
func TestNoClass(t *testing.T) {
	for class := range 256 {
		calls := formulaCalls("p", model("p:"), byte(class))
		for name := range calls {
			if name != "Satisfy" && name != "Valid" {
				delete(calls, name)
			}
		}
		if strings.IndexByte(classes, byte(class)) < 0 {
			refused(t, "a class that is none", api.ErrArg, calls)
		}
		refused(t, "a formula that is none", api.ErrFormula, formulaCalls("(p)", model("p:"), byte(class)))
	}
}
