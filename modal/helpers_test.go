package modal_test

import (
	"math/rand"
	"reflect"
	"slices"
	"strings"
	"testing"

	"squeegee/api"
	"squeegee/modal"
)

const classes = "KT4S"

// tree is a formula: its sign (an atom or 0, !, #, *, &, |, >) and its parts.
type tree struct {
	sign  byte
	parts []tree
}

// cut reads a formula at the beginning of s, and returns what is left of s.
func cut(s string) (tree, string, bool) {
	if s == "" {
		return tree{}, "", false
	}
	switch c := s[0]; c {
	case 'p', 'q', 'r', '0':
		return tree{sign: c}, s[1:], true
	case '!', '#', '*':
		x, rest, ok := cut(s[1:])
		return tree{c, []tree{x}}, rest, ok
	case '(':
		x, rest, ok := cut(s[1:])
		if !ok || rest == "" || !strings.Contains("&|>", rest[:1]) {
			return tree{}, "", false
		}
		y, end, ok := cut(rest[1:])
		if !ok || end == "" || end[0] != ')' {
			return tree{}, "", false
		}
		return tree{rest[0], []tree{x, y}}, end[1:], true
	}
	return tree{}, "", false
}

// parse reads a formula of any length.
func parse(s string) (tree, bool) {
	x, rest, ok := cut(s)
	return x, ok && rest == ""
}

func (x tree) String() string {
	switch len(x.parts) {
	case 0:
		return string(x.sign)
	case 1:
		return string(x.sign) + x.parts[0].String()
	}
	return "(" + x.parts[0].String() + string(x.sign) + x.parts[1].String() + ")"
}

func (x tree) depth() int {
	most := 0
	for _, part := range x.parts {
		most = max(most, part.depth())
	}
	if x.sign == '#' || x.sign == '*' {
		most++
	}
	return most
}

func negated(x tree) tree {
	return tree{'!', []tree{x}}
}

// rewritten applies one of the chapter's replacements somewhere, or returns false if none applies.
func rewritten(x tree) (tree, bool) {
	if x.sign == '>' {
		return tree{'|', []tree{negated(x.parts[0]), x.parts[1]}}, true
	}
	if x.sign == '!' {
		inner := x.parts[0]
		if i := strings.IndexByte("&|#*", inner.sign); i >= 0 {
			out := tree{sign: "|&*#"[i]}
			for _, part := range inner.parts {
				out.parts = append(out.parts, negated(part))
			}
			return out, true
		}
		if inner.sign == '!' {
			return inner.parts[0], true
		}
	}
	for i, part := range x.parts {
		if y, ok := rewritten(part); ok {
			parts := slices.Clone(x.parts)
			parts[i] = y
			return tree{x.sign, parts}, true
		}
	}
	return x, false
}

func normalForm(x tree) tree {
	for {
		y, ok := rewritten(x)
		if !ok {
			return x
		}
		x = y
	}
}

// holds evaluates a formula by the definition.
func holds(m modal.Model, w int, x tree) bool {
	switch x.sign {
	case '0':
		return false
	case '!':
		return !holds(m, w, x.parts[0])
	case '&':
		return holds(m, w, x.parts[0]) && holds(m, w, x.parts[1])
	case '|':
		return holds(m, w, x.parts[0]) || holds(m, w, x.parts[1])
	case '>':
		return !holds(m, w, x.parts[0]) || holds(m, w, x.parts[1])
	case '#', '*':
		for _, v := range m.Sees[w] {
			if holds(m, v, x.parts[0]) == (x.sign == '*') {
				return x.sign == '*'
			}
		}
		return x.sign == '#'
	}
	return strings.IndexByte(m.True[w], x.sign) >= 0
}

// isOf reports whether m is a model of a class, by the definition.
func isOf(m modal.Model, class byte) bool {
	for w, seen := range m.Sees {
		if (class == 'T' || class == 'S') && !slices.Contains(seen, w) {
			return false
		}
		for _, v := range seen {
			for _, u := range m.Sees[v] {
				if (class == '4' || class == 'S') && !slices.Contains(seen, u) {
					return false
				}
			}
		}
	}
	return true
}

// sign chooses one of some signs.
func sign(random *rand.Rand, of string) string {
	return of[random.Intn(len(of)):][:1]
}

// some is a formula of that many bytes.
func some(random *rand.Rand, size int) string {
	if size <= 1 {
		return sign(random, "ppqqr0")
	}
	if size < 5 || random.Intn(3) == 0 {
		return sign(random, "!#*#*") + some(random, size-1)
	}
	left := 1 + random.Intn(size-4)
	return "(" + some(random, left) + sign(random, "&|>") + some(random, size-3-left) + ")"
}

// allFormulas returns for each number of bytes up to most all formulas that have it.
func allFormulas(most int) [][]string {
	out := make([][]string, most+1)
	out[1] = []string{"p", "q", "r", "0"}
	for size := 2; size <= most; size++ {
		for _, f := range out[size-1] {
			out[size] = append(out[size], "!"+f, "#"+f, "*"+f)
		}
		for left := 1; left <= size-4; left++ {
			for _, f := range out[left] {
				for _, g := range out[size-3-left] {
					out[size] = append(out[size], "("+f+"&"+g+")", "("+f+"|"+g+")", "("+f+">"+g+")")
				}
			}
		}
	}
	return out
}

// model reads worlds: their atoms, a colon and the numbers (of one digit) of the worlds that they see.
func model(worlds string) modal.Model {
	var m modal.Model
	for _, w := range strings.Fields(worlds) {
		facts, sees, _ := strings.Cut(w, ":")
		var list []int
		for i := range len(sees) {
			list = append(list, int(sees[i]-'0'))
		}
		m.True = append(m.True, facts)
		m.Sees = append(m.Sees, list)
	}
	return m
}

// someModel is a model in which a world sees another one with that chance of 100.
func someModel(random *rand.Rand, worlds, chance int, atoms string) modal.Model {
	var m modal.Model
	for range worlds {
		var list []int
		for v := range worlds {
			if random.Intn(100) < chance {
				list = append(list, v)
			}
		}
		facts := ""
		for _, a := range atoms {
			if random.Intn(2) == 0 {
				facts += string(a)
			}
		}
		m.Sees = append(m.Sees, list)
		m.True = append(m.True, facts)
	}
	return m
}

// completed makes a model one of a class.
func completed(m modal.Model, class byte) modal.Model {
	for !isOf(m, class) {
		for w := range m.Sees {
			more := slices.Clone(m.Sees[w])
			if class == 'T' || class == 'S' {
				more = append(more, w)
			}
			for _, v := range m.Sees[w] {
				if class == '4' || class == 'S' {
					more = append(more, m.Sees[v]...)
				}
			}
			slices.Sort(more)
			m.Sees[w] = slices.Compact(more)
		}
	}
	return m
}

// satisfied returns what Satisfy says, and checks its model by the definition.
func satisfied(t *testing.T, f string, class byte) bool {
	t.Helper()
	m, ok, e := modal.Satisfy(f, class)
	if e != api.OK {
		t.Fatalf("Satisfy of %s, %c: %d", f, class, e)
	}
	if !ok {
		if !isZero(m) {
			t.Fatalf("Satisfy of %s, %c: %v, false", f, class, m)
		}
		return false
	}
	if modal.CheckModel(m) != api.OK || !isOf(m, class) {
		t.Fatalf("Satisfy of %s, %c: %v", f, class, m)
	}
	if is, e := modal.Holds(m, 0, f); !is || e != api.OK {
		t.Fatalf("Satisfy of %s, %c: %v", f, class, m)
	}
	if x, _ := parse(f); x.depth() < 10 && !holds(m, 0, x) {
		t.Fatalf("Satisfy of %s, %c: %v", f, class, m)
	}
	return true
}

func valid(t *testing.T, f string, class byte) bool {
	t.Helper()
	is, e := modal.Valid(f, class)
	if e != api.OK {
		t.Fatalf("Valid of %s, %c: %d", f, class, e)
	}
	return is
}

// isZero reports whether x is a zero value, but for empty slices.
func isZero(x any) bool {
	switch x := x.(type) {
	case modal.Model:
		return len(x.Sees) == 0 && len(x.True) == 0
	case modal.Proof:
		return x.Rule == 0 && x.At == 0 && len(x.Parts) == 0
	}
	return reflect.ValueOf(x).IsZero()
}

// result is what a call returns beside its error.
type result []any

// refused checks that calls return an error, and nothing else.
func refused(t *testing.T, what string, want api.Errno, calls map[string]func() (result, api.Errno)) {
	t.Helper()
	for name, call := range calls {
		r, e := call()
		if e != want {
			t.Errorf("%s of %s: error %d, not %d", name, what, e, want)
		}
		for _, x := range r {
			if !isZero(x) {
				t.Errorf("%s of %s: %v", name, what, r)
			}
		}
	}
}

// formulaCalls are the calls that take a formula, all else being right; modelCalls those that take a model.
func formulaCalls(f string, m modal.Model, class byte) map[string]func() (result, api.Errno) {
	return map[string]func() (result, api.Errno){
		"Check":   func() (result, api.Errno) { return nil, modal.Check(f) },
		"Depth":   func() (result, api.Errno) { x, e := modal.Depth(f); return result{x}, e },
		"Normal":  func() (result, api.Errno) { x, e := modal.Normal(f); return result{x}, e },
		"Holds":   func() (result, api.Errno) { x, e := modal.Holds(m, 0, f); return result{x}, e },
		"Satisfy": func() (result, api.Errno) { x, y, e := modal.Satisfy(f, class); return result{x, y}, e },
		"Valid":   func() (result, api.Errno) { x, e := modal.Valid(f, class); return result{x}, e },
		"Refute":  func() (result, api.Errno) { x, y, e := modal.Refute(f); return result{x, y}, e },
	}
}

func modelCalls(m modal.Model, world int, class byte) map[string]func() (result, api.Errno) {
	good := model("p:0")
	return map[string]func() (result, api.Errno){
		"CheckModel":  func() (result, api.Errno) { return nil, modal.CheckModel(m) },
		"Holds":       func() (result, api.Errno) { x, e := modal.Holds(m, world, "p"); return result{x}, e },
		"InClass":     func() (result, api.Errno) { x, e := modal.InClass(m, class); return result{x}, e },
		"Alike":       func() (result, api.Errno) { x, y, e := modal.Alike(m, good, world, 0); return result{x, y}, e },
		"Alike after": func() (result, api.Errno) { x, y, e := modal.Alike(good, m, 0, world); return result{x, y}, e },
	}
}
