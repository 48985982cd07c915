package cups_test

import (
	"fmt"
	"math/rand"
	"reflect"
	"slices"
	"strconv"
	"strings"
	"testing"

	"squeegee/api"
	"squeegee/cups"
)

// ints is a list of numbers, with spaces between them.
func ints(s string) []int {
	var out []int
	for _, f := range strings.Fields(s) {
		n, e := strconv.Atoi(f)
		if e != nil {
			panic("not a number: " + f)
		}
		out = append(out, n)
	}
	return out
}

// points are pairs of numbers, with ; between them.
func points(s string) [][2]int {
	var out [][2]int
	for _, p := range strings.Split(s, ";") {
		out = append(out, [2]int(ints(p)))
	}
	return out
}

// isZero reports whether a result is the zero value.
func isZero(x any) bool {
	v := reflect.ValueOf(x)
	return !v.IsValid() || v.IsZero() || v.Kind() == reflect.Slice && v.Len() == 0
}

// must is a result that has no error.
func must[T any](t *testing.T) func(T, api.Errno) T {
	return func(x T, e api.Errno) T {
		t.Helper()
		if e != api.OK {
			t.Fatalf("error %d", e)
		}
		return x
	}
}

// turnOf is a turn by the signed area of a triangle.
func turnOf(a, b, c [2]int) int {
	area := a[0]*b[1] - a[1]*b[0] + b[0]*c[1] - b[1]*c[0] + c[0]*a[1] - c[1]*a[0]
	switch {
	case area > 0:
		return 1
	case area < 0:
		return -1
	}
	return 0
}

// isEarlier reports whether p is before q in the order.
func isEarlier(p, q [2]int) bool {
	return p[0] < q[0] || p[0] == q[0] && p[1] < q[1]
}

// firstLine goes through all three points.
func firstLine(l [][2]int) (int, int, int, bool) {
	for i := range l {
		for j := i + 1; j < len(l); j++ {
			for k := j + 1; k < len(l); k++ {
				if turnOf(l[i], l[j], l[k]) == 0 {
					return i, j, k, false
				}
			}
		}
	}
	return 0, 0, 0, true
}

func areIndices(l [][2]int, list []int) bool {
	for _, i := range list {
		if i < 0 || i >= len(l) {
			return false
		}
	}
	return true
}

// isBentBy goes by the definition of cups, if turn is 1, or of caps, if it is -1.
func isBentBy(l [][2]int, list []int, turn int) bool {
	if len(list) < 2 || !areIndices(l, list) {
		return false
	}
	for i := 1; i < len(list); i++ {
		if !isEarlier(l[list[i-1]], l[list[i]]) {
			return false
		}
	}
	for i := 2; i < len(list); i++ {
		if turnOf(l[list[i-2]], l[list[i-1]], l[list[i]]) != turn {
			return false
		}
	}
	return true
}

// isPolygonBy reports whether all three points of a list turn to the left in the order of the list, which is what the corners of a hull do, and the first one is the first.
func isPolygonBy(l [][2]int, list []int) bool {
	if len(list) < 3 || !areIndices(l, list) {
		return false
	}
	for i := range list {
		if i > 0 && !isEarlier(l[list[0]], l[list[i]]) {
			return false
		}
		for j := range i {
			for k := range j {
				if turnOf(l[list[k]], l[list[j]], l[list[i]]) != 1 {
					return false
				}
			}
		}
	}
	return true
}

// isInTriangle reports whether point p is inside a triangle of three of the points.
func isInTriangle(l [][2]int, p, a, b, c int) bool {
	x, y, z := turnOf(l[a], l[b], l[p]), turnOf(l[b], l[c], l[p]), turnOf(l[c], l[a], l[p])
	return x == y && y == z && x != 0
}

// isWithin reports whether point p is inside a triangle of some points of a list: whether it is none of the corners of the hull of that list and p.
func isWithin(l [][2]int, p int, list []int) bool {
	for i := range list {
		for j := range i {
			for k := range j {
				if isInTriangle(l, p, list[i], list[j], list[k]) {
					return true
				}
			}
		}
	}
	return false
}

// isEmptyBy goes by the definition.
func isEmptyBy(l [][2]int, list []int) bool {
	if !isPolygonBy(l, list) {
		return false
	}
	for p := range l {
		if isWithin(l, p, list) {
			return false
		}
	}
	return true
}

// inOrder is a list of points in the order.
func inOrder(l [][2]int, list []int) []int {
	out := slices.Clone(list)
	slices.SortFunc(out, func(i, j int) int {
		switch {
		case isEarlier(l[i], l[j]):
			return -1
		case isEarlier(l[j], l[i]):
			return 1
		}
		return 0
	})
	return out
}

// around is a list of points that begins with the first one, the others counterclockwise around that.
func around(l [][2]int, list []int) []int {
	out := inOrder(l, list)
	slices.SortFunc(out[1:], func(i, j int) int { return -turnOf(l[out[0]], l[i], l[j]) })
	return out
}

// eachSet gives all sets of n points, rising.
func eachSet(n int, visit func(list []int)) {
	for set := range 1 << n {
		var list []int
		for i := range n {
			if set>>i&1 == 1 {
				list = append(list, i)
			}
		}
		visit(list)
	}
}

// greatest is how many points the largest set has that is a list of a kind when it is arranged.
func greatest(l [][2]int, arrange func([][2]int, []int) []int, is func([][2]int, []int) bool) int {
	most := 0
	eachSet(len(l), func(list []int) {
		if len(list) > most && is(l, arrange(l, list)) {
			most = len(list)
		}
	})
	return most
}

// layersBy takes the points that are in no triangle of others, and goes on with the others.
func layersBy(l [][2]int) [][]int {
	var rest []int
	for i := range l {
		rest = append(rest, i)
	}
	var out [][]int
	for len(rest) > 0 {
		var layer, inner []int
		for _, p := range rest {
			if isWithin(l, p, rest) {
				inner = append(inner, p)
			} else {
				layer = append(layer, p)
			}
		}
		out = append(out, around(l, layer))
		rest = inner
	}
	return out
}

// edgesBy goes by the definition.
func edgesBy(l [][2]int) []int {
	out := make([]int, len(l)/2)
	for i := range l {
		for j := range i {
			var sides [3]int
			for _, p := range l {
				sides[turnOf(l[i], l[j], p)+1]++
			}
			out[min(sides[0], sides[2])]++
		}
	}
	return out
}

// crossBy reports whether two segments have a point in common, by where on each of them the lines cross.
func crossBy(a, b, c, d [2]int) bool {
	cross := func(p, q [2]int) int { return p[0]*q[1] - p[1]*q[0] }
	minus := func(p, q [2]int) [2]int { return [2]int{p[0] - q[0], p[1] - q[1]} }
	u, v, w := minus(b, a), minus(d, c), minus(c, a)
	whole, first, second := cross(u, v), cross(w, v), cross(w, u)
	if whole < 0 {
		whole, first, second = -whole, -first, -second
	}
	return whole != 0 && first >= 0 && first <= whole && second >= 0 && second <= whole
}

// crossingsBy goes through all pairs of pairs.
func crossingsBy(l [][2]int) int {
	var pairs [][2]int
	for i := range l {
		for j := range i {
			pairs = append(pairs, [2]int{i, j})
		}
	}
	out := 0
	for x, p := range pairs {
		for _, q := range pairs[:x] {
			if p[0] != q[0] && p[0] != q[1] && p[1] != q[0] && p[1] != q[1] && crossBy(l[p[0]], l[p[1]], l[q[0]], l[q[1]]) {
				out++
			}
		}
	}
	return out
}

// squaresBy counts the sets of four points that are a polygon when they are arranged.
func squaresBy(l [][2]int) int {
	out := 0
	eachSet(len(l), func(list []int) {
		if len(list) == 4 && isPolygonBy(l, around(l, list)) {
			out++
		}
	})
	return out
}

// isHalving reports whether the line through two points has as many points of a list on each side.
func isHalving(line [2][2]int, list [][2]int) bool {
	more := 0
	for _, p := range list {
		more += turnOf(line[0], line[1], p)
	}
	return more == 0
}

// somePoints are n different points with numbers from -most to most.
func somePoints(random *rand.Rand, n, most int) [][2]int {
	var out [][2]int
	for len(out) < n {
		p := [2]int{random.Intn(2*most+1) - most, random.Intn(2*most+1) - most}
		if !slices.Contains(out, p) {
			out = append(out, p)
		}
	}
	return out
}

// someGeneral are n general points; if most is small, many of them have a number in common.
func someGeneral(random *rand.Rand, n, most int) [][2]int {
	var out [][2]int
	for tries := 0; len(out) < n; tries++ {
		if tries > 400 {
			out, tries = nil, 0
		}
		p := somePoints(random, 1, most)[0]
		if _, _, _, general := firstLine(append(out, p)); general && !slices.Contains(out, p) {
			out = append(out, p)
		}
	}
	return out
}

// onCurve are n points that are a cup if turn is 1, a cap if it is -1, in any order of indices.
func onCurve(random *rand.Rand, n, turn int) [][2]int {
	var out [][2]int
	for _, i := range random.Perm(30)[:n] {
		x := i - 15
		out = append(out, [2]int{x * 60, turn * (x*x*4 - 500)})
	}
	return out
}

// mixed are points that are one after the other taken from two lists.
func mixed(random *rand.Rand, l, m [][2]int) [][2]int {
	out := slices.Concat(l, m)
	random.Shuffle(len(out), func(i, j int) { out[i], out[j] = out[j], out[i] })
	return out
}

// examples are general points of all kinds, from least to most of them.
func examples(random *rand.Rand, number, least, most int) [][][2]int {
	var out [][][2]int
	for k := 0; len(out) < number; k++ {
		n := least + random.Intn(most-least+1)
		l := someGeneral(random, n, []int{8, 12, 30, 1000}[k%4])
		switch half := random.Intn(n + 1); k % 7 {
		case 0:
			l = onCurve(random, n, 1-k%2*2)
		case 1: // a lens
			l = mixed(random, onCurve(random, half, 1), onCurve(random, n-half, -1))
		case 2: // triangles one in the other
			l = nil
			for i := range n {
				size, near := 240-45*(i/3), somePoints(random, 1, 8)[0]
				l = append(l, [2]int{[]int{0, -3, 3}[i%3]*size + near[0], []int{4, -3, -2}[i%3]*size + near[1]})
			}
			random.Shuffle(n, func(i, j int) { l[i], l[j] = l[j], l[i] })
		}
		if _, _, _, general := firstLine(l); general && cups.Check(l) == api.OK {
			out = append(out, l)
		}
	}
	return out
}

// result is all that a call returns but the error.
type result []any

// calls are all calls that return an error and take points, all but Halve just l.
func calls(l, m [][2]int) map[string]func() (result, api.Errno) {
	one := func(x any, e api.Errno) (result, api.Errno) { return result{x}, e }
	return map[string]func() (result, api.Errno){
		"Check": func() (result, api.Errno) { return nil, cups.Check(l) },
		"General": func() (result, api.Errno) {
			i, j, k, general, e := cups.General(l)
			return result{i, j, k, general}, e
		},
		"Cup":       func() (result, api.Errno) { x, e := cups.Cup(l); return one(x, e) },
		"Cap":       func() (result, api.Errno) { x, e := cups.Cap(l); return one(x, e) },
		"Polygon":   func() (result, api.Errno) { x, e := cups.Polygon(l); return one(x, e) },
		"Empty":     func() (result, api.Errno) { x, e := cups.Empty(l); return one(x, e) },
		"Layers":    func() (result, api.Errno) { x, e := cups.Layers(l); return one(x, e) },
		"Edges":     func() (result, api.Errno) { x, e := cups.Edges(l); return one(x, e) },
		"Crossings": func() (result, api.Errno) { x, e := cups.Crossings(l); return one(x, e) },
		"Squares":   func() (result, api.Errno) { x, e := cups.Squares(l); return one(x, e) },
		"Halve":     func() (result, api.Errno) { x, e := cups.Halve(l, m); return one(x, e) },
	}
}

// kinds are the calls that report whether points are of a kind.
var kinds = map[string]func([][2]int, []int) bool{"IsCup": cups.IsCup, "IsCap": cups.IsCap, "IsPolygon": cups.IsPolygon, "IsEmpty": cups.IsEmpty}

// kindsBy are the same by their definitions.
var kindsBy = map[string]func([][2]int, []int) bool{
	"IsCup":     func(l [][2]int, list []int) bool { return isBentBy(l, list, 1) },
	"IsCap":     func(l [][2]int, list []int) bool { return isBentBy(l, list, -1) },
	"IsPolygon": isPolygonBy,
	"IsEmpty":   isEmptyBy,
}

// refuses checks that a call returns an error and nothing else.
func refuses(t *testing.T, name string, want api.Errno, call func() (result, api.Errno)) {
	t.Helper()
	x, e := call()
	if e != want {
		t.Errorf("%s: error %d instead of %d", name, e, want)
	}
	for _, part := range x {
		if !isZero(part) {
			t.Errorf("%s: %.100s next to an error", name, fmt.Sprint(part))
		}
	}
}
