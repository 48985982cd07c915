package slide_test

import (
	"cmp"
	"fmt"
	"math"
	"math/rand"
	"reflect"
	"slices"
	"strings"
	"testing"

	"squeegee/api"
	"squeegee/slide"
)

// digits is a list of numbers of one digit each.
func digits(s string) []int {
	var out []int
	for _, c := range []byte(s) {
		if c < '0' || c > '9' {
			panic("not digits: " + s)
		}
		out = append(out, int(c-'0'))
	}
	return out
}

// ropes are edges of two digits each, with blanks between them.
func ropes(s string) [][2]int {
	var out [][2]int
	for _, f := range strings.Fields(s) {
		out = append(out, [2]int(digits(f)))
	}
	return out
}

// facade is a board of the tests.
type facade struct {
	n     int
	edges [][2]int
}

// theta is the board of seven places that is an exception to P10.4.
var theta = facade{7, ropes("01 05 06 12 23 34 36 45")}

// grid is the board of a grid, made place by place.
func grid(rows, columns int) facade {
	f := facade{n: rows * columns}
	for i := range f.n {
		for j := i + 1; j < f.n; j++ {
			if i/columns == j/columns && j-i == 1 || i%columns == j%columns && j/columns-i/columns == 1 {
				f.edges = append(f.edges, [2]int{i, j})
			}
		}
	}
	return f
}

// round is a ring of n places.
func round(n int) facade {
	f := facade{n: n}
	for i := range n {
		f.edges = append(f.edges, [2]int{i, (i + 1) % n})
	}
	return f.named(first(n))
}

// full is the board with all edges.
func full(n int) facade {
	f := facade{n: n}
	for i := range n {
		for j := i + 1; j < n; j++ {
			f.edges = append(f.edges, [2]int{i, j})
		}
	}
	return f
}

// star is the board in which all places have just one edge, to one in the middle.
func star(n, middle int) facade {
	f := facade{n: n}
	for i := range n {
		if i != middle {
			f.edges = append(f.edges, [2]int{i, middle})
		}
	}
	return f.named(first(n))
}

// first is the list of the numbers from 0 to n - 1.
func first(n int) []int {
	out := make([]int, n)
	for i := range out {
		out[i] = i
	}
	return out
}

// named is a board with other names of its places, its edges in order.
func (f facade) named(names []int) facade {
	out := facade{n: f.n}
	for _, e := range f.edges {
		i, j := names[e[0]], names[e[1]]
		out.edges = append(out.edges, [2]int{min(i, j), max(i, j)})
	}
	slices.SortFunc(out.edges, func(a, b [2]int) int { return cmp.Compare(a[0]*100+a[1], b[0]*100+b[1]) })
	return out
}

func (f facade) hasEdge(i, j int) bool {
	return slices.Contains(f.edges, [2]int{min(i, j), max(i, j)})
}

// isConnectedWithout reports whether a board is connected when a place is taken away, if it is one.
func (f facade) isConnectedWithout(away int) bool {
	name := first(f.n) // equal for places that are connected
	for range f.n {
		for _, e := range f.edges {
			if e[0] != away && e[1] != away {
				least := min(name[e[0]], name[e[1]])
				name[e[0]], name[e[1]] = least, least
			}
		}
	}
	for i := range f.n {
		for j := range f.n {
			if i != away && j != away && name[i] != name[j] {
				return false
			}
		}
	}
	return true
}

// isWhole goes by the definition.
func (f facade) isWhole() bool {
	for away := range f.n {
		if !f.isConnectedWithout(away) {
			return false
		}
	}
	return f.n >= 3
}

// sides goes through all sets with place 0.
func (f facade) sides() (int, bool) {
	for set := 1; set < 1<<f.n; set += 2 {
		if !slices.ContainsFunc(f.edges, func(e [2]int) bool { return set>>e[0]&1 == set>>e[1]&1 }) {
			return set, true
		}
	}
	return 0, false
}

// isRing reports whether each place of a board has two edges.
func (f facade) isRing() bool {
	ends := make([]int, f.n)
	for _, e := range f.edges {
		ends[e[0]]++
		ends[e[1]]++
	}
	return !slices.ContainsFunc(ends, func(n int) bool { return n != 2 })
}

// isTheta reports whether a board is theta but for the names of its places.
func (f facade) isTheta() bool {
	if f.n != theta.n || len(f.edges) != len(theta.edges) {
		return false
	}
	found := false
	eachOrder(f.n, func(names []int) {
		found = found || reflect.DeepEqual(theta.named(names), f)
	})
	return found
}

// eachOrder gives all lists of the numbers from 0 to n - 1.
func eachOrder(n int, visit func(list []int)) {
	list := first(n)
	var arrange func(from int)
	arrange = func(from int) {
		if from == n {
			visit(list)
			return
		}
		for i := from; i < n; i++ {
			list[from], list[i] = list[i], list[from]
			arrange(from + 1)
			list[from], list[i] = list[i], list[from]
		}
	}
	arrange(0)
}

// signBy is the sign of p against q by exchanges of two numbers that make them the same.
func signBy(p, q []int) int {
	at, out := slices.Clone(p), 1
	for i, want := range q {
		if j := slices.Index(at, want); j != i {
			at[i], at[j] = at[j], at[i]
			out = -out
		}
	}
	return out
}

// text is a position as a string.
func text(p []int) string {
	out := make([]byte, len(p))
	for i, number := range p {
		out[i] = byte('0' + number)
	}
	return string(out)
}

// needed is how many moves each position that can be reached from one needs.
func (f facade) needed(p []int) map[string]int {
	out := map[string]int{text(p): 0}
	for list := []string{text(p)}; len(list) > 0; list = list[1:] {
		hole := strings.IndexByte(list[0], '0')
		for to := range f.n {
			if !f.hasEdge(hole, to) {
				continue
			}
			next := []byte(list[0])
			next[hole], next[to] = next[to], next[hole]
			if _, known := out[string(next)]; !known {
				out[string(next)] = out[list[0]] + 1
				list = append(list, string(next))
			}
		}
	}
	return out
}

// allBoards are all boards of n places.
func allBoards(n int) []facade {
	var out []facade
	all := full(n).edges
	for set := range 1 << len(all) {
		f := facade{n: n}
		for i, e := range all {
			if set>>i&1 == 1 {
				f.edges = append(f.edges, e)
			}
		}
		if f.isConnectedWithout(-1) {
			out = append(out, f)
		}
	}
	return out
}

// someBoard is a tree of n places with some more edges, up to a number.
func someBoard(random *rand.Rand, n, more int) facade {
	f := facade{n: n}
	for i := 1; i < n; i++ {
		f.edges = append(f.edges, [2]int{random.Intn(i), i})
	}
	for range more {
		if i, j := random.Intn(n), random.Intn(n); i < j && !f.hasEdge(i, j) {
			f.edges = append(f.edges, [2]int{i, j})
		}
	}
	return f.named(random.Perm(n))
}

// walked is where random moves lead from a position, and the moves.
func (f facade) walked(random *rand.Rand, p []int, steps int) ([]int, []int) {
	at := slices.Clone(p)
	var moves []int
	for len(moves) < steps {
		hole, to := slices.Index(at, 0), random.Intn(f.n)
		if f.hasEdge(hole, to) {
			at[hole], at[to] = at[to], at[hole]
			moves = append(moves, to)
		}
	}
	return at, moves
}

// notSizes are numbers that are not from 2 to 9.
var notSizes = []int{1, 0, -1, -2, 10, 11, 100, 1<<16 + 3, 1<<32 + 3, math.MinInt32, math.MaxInt, math.MinInt, -1 << 32}

// isZero reports whether a result is the zero value.
func isZero(x any) bool {
	v := reflect.ValueOf(x)
	return !v.IsValid() || v.IsZero() || v.Kind() == reflect.Slice && v.Len() == 0
}

// must is a result that has no error.
func must[T any](t *testing.T) func(T, api.Errno) T {
	return func(x T, e api.Errno) T {
		t.Helper()
		if e != api.OK {
			t.Fatalf("error %d", e)
		}
		return x
	}
}

// must2 is two results that have no error.
func must2[T, U any](t *testing.T) func(T, U, api.Errno) (T, U) {
	return func(x T, y U, e api.Errno) (T, U) {
		t.Helper()
		if e != api.OK {
			t.Fatalf("error %d", e)
		}
		return x, y
	}
}

// result is all that a call returns but the error.
type result []any

// calls are all calls that take a board; the names of those that take a position end with p, of those that take two with pq.
func calls(n int, edges [][2]int, p, q, moves []int) map[string]func() (result, api.Errno) {
	one := func(x any, e api.Errno) (result, api.Errno) { return result{x}, e }
	two := func(x, y any, e api.Errno) (result, api.Errno) { return result{x, y}, e }
	return map[string]func() (result, api.Errno){
		"Check":      func() (result, api.Errno) { return nil, slide.Check(n, edges) },
		"IsWhole":    func() (result, api.Errno) { x, e := slide.IsWhole(n, edges); return one(x, e) },
		"Sides":      func() (result, api.Errno) { x, y, e := slide.Sides(n, edges); return two(x, y, e) },
		"Size":       func() (result, api.Errno) { x, e := slide.Size(n, edges); return one(x, e) },
		"Apply p":    func() (result, api.Errno) { x, y, e := slide.Apply(n, edges, p, moves); return two(x, y, e) },
		"Count p":    func() (result, api.Errno) { x, e := slide.Count(n, edges, p); return one(x, e) },
		"Farthest p": func() (result, api.Errno) { x, y, e := slide.Farthest(n, edges, p); return two(x, y, e) },
		"Reaches pq": func() (result, api.Errno) { x, e := slide.Reaches(n, edges, p, q); return one(x, e) },
		"Solve pq":   func() (result, api.Errno) { x, y, e := slide.Solve(n, edges, p, q); return two(x, y, e) },
	}
}

// refuses checks that a call returns an error and nothing else.
func refuses(t *testing.T, name string, want api.Errno, call func() (result, api.Errno)) {
	t.Helper()
	x, e := call()
	if e != want {
		t.Errorf("%s: error %d instead of %d", name, e, want)
	}
	for _, part := range x {
		if !isZero(part) {
			t.Errorf("%s: %.100s next to an error", name, fmt.Sprint(part))
		}
	}
}
