package regex_test

import (
	"math/rand"
	"reflect"
	"slices"
	"strings"
	"testing"

	"squeegee/api"
	"squeegee/regex"
)

// tree is an expression, read apart from the package: op is a letter, 0, 1, !, *, . (one after the other), & or |.
type tree struct {
	op    byte
	parts []*tree
}

// reader reads an expression; wrong is set if it is none. It knows no limits.
type reader struct {
	s     string
	at    int
	wrong bool
}

func (r *reader) peek() byte {
	if r.at < len(r.s) {
		return r.s[r.at]
	}
	return 0
}

// sequence reads parts with a sign between any two (none for items).
func (r *reader) sequence(op byte, part func() *tree, more func() bool) *tree {
	out := &tree{op: op, parts: []*tree{part()}}
	for !r.wrong && more() {
		out.parts = append(out.parts, part())
	}
	if len(out.parts) == 1 {
		return out.parts[0]
	}
	return out
}

func (r *reader) sign(c byte) func() bool {
	return func() bool {
		if r.peek() != c {
			return false
		}
		r.at++
		return true
	}
}

func (r *reader) expression() *tree {
	items := func() *tree {
		return r.sequence('.', r.item, func() bool { return r.peek() != 0 && !strings.ContainsRune("|&)", rune(r.peek())) })
	}
	meets := func() *tree { return r.sequence('&', items, r.sign('&')) }
	return r.sequence('|', meets, r.sign('|'))
}

func (r *reader) item() *tree {
	out := r.atom()
	for !r.wrong && r.sign('*')() {
		out = &tree{'*', []*tree{out}}
	}
	return out
}

func (r *reader) atom() *tree {
	c := r.peek()
	r.at++
	switch {
	case c != 0 && strings.ContainsRune("abc01", rune(c)):
		return &tree{op: c}
	case c == '!':
		return &tree{'!', []*tree{r.atom()}}
	case c == '(':
		out := r.expression()
		r.wrong = r.wrong || !r.sign(')')()
		return out
	}
	r.wrong = true
	return &tree{op: '0'}
}

// grown is the tree of an expression.
func grown(t *testing.T, s string) *tree {
	t.Helper()
	r := &reader{s: s}
	out := r.expression()
	if r.wrong || r.at != len(s) {
		t.Fatalf("%q is no expression", s)
	}
	return out
}

// has is whether w is in the language, by the definition of the languages.
func (x *tree) has(w string) bool {
	split := func(from int, first func(string) bool, rest func(string) bool) bool {
		for i := from; i <= len(w); i++ {
			if first(w[:i]) && rest(w[i:]) {
				return true
			}
		}
		return false
	}
	in := func(p *tree) bool { return p.has(w) }
	switch x.op {
	case '0':
		return false
	case '1':
		return w == ""
	case '!':
		return !x.parts[0].has(w)
	case '*':
		return w == "" || split(1, x.parts[0].has, x.has)
	case '&':
		return !slices.ContainsFunc(x.parts, func(p *tree) bool { return !p.has(w) })
	case '|':
		return slices.ContainsFunc(x.parts, in)
	case '.':
		if len(x.parts) == 1 {
			return in(x.parts[0])
		}
		return split(0, x.parts[0].has, (&tree{'.', x.parts[1:]}).has)
	}
	return w == string(x.op)
}

// wordsUpTo are all words of at most that length, by length and then in alphabetical order.
func wordsUpTo(most int) []string {
	out := []string{""}
	for i := 0; len(out[i]) < most; i++ {
		out = append(out, out[i]+"a", out[i]+"b", out[i]+"c")
	}
	return out
}

// some is an expression, written with no more brackets than it takes, or with a few more.
func some(random *rand.Rand, size int) string {
	out, _ := someLoose(random, size)
	return out
}

// someLoose also returns how loosely the expression is bound: 0 an atom, 1 an item, 2 items, 3 meets, 4 alternatives.
func someLoose(random *rand.Rand, size int) (string, int) {
	if size < 2 {
		return []string{"a", "b", "c", "a", "b", "c", "0", "1"}[random.Intn(8)], 0
	}
	within := func(size, most int) string {
		s, loose := someLoose(random, size)
		if loose > most || random.Intn(10) == 0 {
			return "(" + s + ")"
		}
		return s
	}
	left := 1 + random.Intn(size-1)
	switch random.Intn(10) {
	case 0:
		return "!" + within(size-1, 0), 0
	case 1, 2:
		return within(size-1, 1) + "*", 1
	case 3, 4, 5, 6:
		return within(left, 2) + within(size-left, 2), 2
	case 7:
		return within(left, 3) + "&" + within(size-left, 3), 3
	}
	return within(left, 4) + "|" + within(size-left, 4), 4
}

// isZero reports whether a result is the zero value, or an empty slice.
func isZero(x any) bool {
	v := reflect.ValueOf(x)
	return v.IsZero() || v.Kind() == reflect.Slice && v.Len() == 0
}

// must is a result that has no error.
func must[T any](t *testing.T) func(T, api.Errno) T {
	return func(x T, e api.Errno) T {
		t.Helper()
		if e != api.OK {
			t.Fatalf("error %d", e)
		}
		return x
	}
}

// states is the table of an expression that has one.
func states(t *testing.T, s string) automaton {
	t.Helper()
	ends, next, e := regex.States(s)
	if e != api.OK {
		t.Fatalf("States(%q): error %d", s, e)
	}
	return automaton{ends, next}
}

// same checks that two expressions have the same language.
func same(t *testing.T, law, x, y string) {
	t.Helper()
	if w, ok, e := regex.Equal(x, y); w != "" || !ok || e != api.OK {
		t.Fatalf("%s: %s and %s differ in %q (%v, error %d)", law, x, y, w, ok, e)
	}
}
