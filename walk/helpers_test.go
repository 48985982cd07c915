package walk_test

import (
	"fmt"
	"math/big"
	"math/rand"
	"reflect"
	"strings"
	"testing"

	"squeegee/api"
	"squeegee/num"
	"squeegee/walk"
)

// read is the fraction of a canonical form.
func read(s string) num.Rat {
	r, e := num.Parse(s)
	if e != api.OK {
		panic("not a fraction: " + s)
	}
	return r
}

// list is a list of fractions, with spaces between them.
func list(s string) []num.Rat {
	var out []num.Rat
	for _, f := range strings.Fields(s) {
		out = append(out, read(f))
	}
	return out
}

// matrix is a matrix: rows with ; between them.
func matrix(s string) [][]num.Rat {
	var out [][]num.Rat
	for _, row := range strings.Split(s, ";") {
		out = append(out, list(row))
	}
	return out
}

// show writes a list.
func show(l []num.Rat) string {
	var out []string
	for _, r := range l {
		out = append(out, r.String())
	}
	return strings.Join(out, " ")
}

// showRows writes a matrix.
func showRows(m [][]num.Rat) string {
	var out []string
	for _, row := range m {
		out = append(out, show(row))
	}
	return strings.Join(out, ";")
}

// isZero reports whether a result is the zero value.
func isZero(x any) bool {
	v := reflect.ValueOf(x)
	return !v.IsValid() || v.IsZero() || v.Kind() == reflect.Slice && v.Len() == 0
}

// must is a result that has no error.
func must[T any](t *testing.T) func(T, api.Errno) T {
	return func(x T, e api.Errno) T {
		t.Helper()
		if e != api.OK {
			t.Fatalf("error %d", e)
		}
		return x
	}
}

// exact is a fraction of math/big.
func exact(r num.Rat) *big.Rat {
	out, ok := new(big.Rat).SetString(r.String())
	if !ok {
		panic("not a fraction: " + r.String())
	}
	return out
}

func exactList(l []num.Rat) []*big.Rat {
	var out []*big.Rat
	for _, r := range l {
		out = append(out, exact(r))
	}
	return out
}

func exactRows(m [][]num.Rat) [][]*big.Rat {
	var out [][]*big.Rat
	for _, row := range m {
		out = append(out, exactList(row))
	}
	return out
}

func plus(a, b *big.Rat) *big.Rat  { return new(big.Rat).Add(a, b) }
func minus(a, b *big.Rat) *big.Rat { return new(big.Rat).Sub(a, b) }
func times(a, b *big.Rat) *big.Rat { return new(big.Rat).Mul(a, b) }
func over(a, b *big.Rat) *big.Rat  { return new(big.Rat).Quo(a, b) }

func whole(n int) *big.Rat { return new(big.Rat).SetInt64(int64(n)) }

func isOne(r *big.Rat) bool { return r.Cmp(whole(1)) == 0 }

// product is the sum of the products of the elements of two lists.
func product(a, b []*big.Rat) *big.Rat {
	out := new(big.Rat)
	for i := range a {
		out = plus(out, times(a[i], b[i]))
	}
	return out
}

// column is column j of a matrix.
func column(m [][]*big.Rat, j int) []*big.Rat {
	var out []*big.Rat
	for _, row := range m {
		out = append(out, row[j])
	}
	return out
}

// waysOf tells for each pair of elements whether there is a way of just that many steps.
func waysOf(m [][]num.Rat, steps int) [][]bool {
	n := len(m)
	out := make([][]bool, n)
	for i := range out {
		out[i] = make([]bool, n)
		out[i][i] = true
	}
	for range steps {
		next := make([][]bool, n)
		for i := range next {
			next[i] = make([]bool, n)
			for j := range n {
				for k := range n {
					next[i][j] = next[i][j] || out[i][k] && m[k][j].Sign() > 0
				}
			}
		}
		out = next
	}
	return out
}

// leadsOf tells for each pair of elements whether the first one leads to the second one.
func leadsOf(m [][]num.Rat) [][]bool {
	out := waysOf(m, 0)
	for steps := 1; steps < len(m); steps++ {
		for i, row := range waysOf(m, steps) {
			for j, is := range row {
				out[i][j] = out[i][j] || is
			}
		}
	}
	return out
}

// classOf lists the class of an element.
func classOf(m [][]num.Rat, i int) []int {
	leads := leadsOf(m)
	var out []int
	for j := range m {
		if leads[i][j] && leads[j][i] {
			out = append(out, j)
		}
	}
	return out
}

// isClosed reports whether the class of an element is closed.
func isClosed(m [][]num.Rat, i int) bool {
	leads := leadsOf(m)
	for j := range m {
		if leads[i][j] && !leads[j][i] {
			return false
		}
	}
	return true
}

func isOneClass(m [][]num.Rat) bool {
	return len(classOf(m, 0)) == len(m)
}

// someRow is a row of n chances of which those that are allowed may be greater than 0, with that denominator.
func someRow(random *rand.Rand, allowed []bool, low int64) []num.Rat {
	var open []int
	for j, is := range allowed {
		if is {
			open = append(open, j)
		}
	}
	parts := make([]int64, len(allowed))
	rest := low
	for at, k := range random.Perm(len(open)) {
		part := rest
		if at < len(open)-1 {
			part = random.Int63n(2*rest/int64(len(open)-at) + 1)
		}
		parts[open[k]] = min(part, rest)
		rest -= parts[open[k]]
	}
	var out []num.Rat
	for _, p := range parts {
		r, _ := num.Make(p, low)
		out = append(out, r)
	}
	return out
}

// someChain is a chain in which each step is possible with a chance of density percent. With periods, steps lead only from an element to those whose number is greater by 1, as far as it is divided by period.
func someChain(random *rand.Rand, n, density, period int, low int64) [][]num.Rat {
	var out [][]num.Rat
	for i := range n {
		allowed := make([]bool, n)
		var possible []int
		for j := range n {
			if (i+1)%period == j%period {
				possible = append(possible, j)
				allowed[j] = random.Intn(100) < density
			}
		}
		if len(possible) == 0 {
			possible = []int{i}
		}
		allowed[possible[random.Intn(len(possible))]] = true
		out = append(out, someRow(random, allowed, low))
	}
	return out
}

// chains are many chains of all kinds.
func chains(random *rand.Rand, number int) [][][]num.Rat {
	var out [][][]num.Rat
	for k := range number {
		n := 1 + random.Intn(8)
		low := []int64{2, 10, 97, 999999, 1 + random.Int63n(999999)}[k%5]
		out = append(out, someChain(random, n, []int{0, 15, 30, 60, 100}[random.Intn(5)], 1+random.Intn(min(n, 4)), low))
	}
	return out
}

// isPrime reports whether n is a prime.
func isPrime(n int64) bool {
	for d := int64(2); d*d <= n; d++ {
		if n%d == 0 {
			return false
		}
	}
	return n > 1
}

// primeChain has for each row four primes: two chances in a row have it in their denominators.
func primeChain() [][]num.Rat {
	next := int64(249999)
	prime := func() int64 {
		for next--; !isPrime(next); next-- {
		}
		return next
	}
	quarter := read("1/4")
	var out [][]num.Rat
	for range 8 {
		var row []num.Rat
		for range 4 {
			p := prime()
			a, _ := num.Make(p/7, p)
			b, _ := quarter.Sub(a)
			row = append(row, a, b)
		}
		out = append(out, row)
	}
	return out
}

// evenChain is balanced: how often one goes from i to j is the same backwards.
func evenChain(random *rand.Rand, n, density int) [][]num.Rat {
	weights := make([][]int64, n)
	for i := range weights {
		weights[i] = make([]int64, n)
	}
	for i := range n {
		for j := range i + 1 {
			if j == i-1 || random.Intn(100) < density {
				weights[i][j] = 1 + random.Int63n(60)
				weights[j][i] = weights[i][j]
			}
		}
	}
	var out [][]num.Rat
	for i := range n {
		all := int64(0)
		for _, w := range weights[i] {
			all += w
		}
		if all == 0 {
			weights[i][i], all = 1, 1
		}
		var row []num.Rat
		for _, w := range weights[i] {
			r, _ := num.Make(w, all)
			row = append(row, r)
		}
		out = append(out, row)
	}
	return out
}

// result is all that a call returns but the error.
type result []any

// calls are all calls for a chain, and Ruin.
func calls(m [][]num.Rat, from []num.Rat, i, set, steps int) map[string]func() (result, api.Errno) {
	one := func(x any, e api.Errno) (result, api.Errno) { return result{x}, e }
	return map[string]func() (result, api.Errno){
		"Check": func() (result, api.Errno) { return nil, walk.Check(m) },
		"Classes": func() (result, api.Errno) {
			least, closed, e := walk.Classes(m)
			return result{least, closed}, e
		},
		"Period": func() (result, api.Errno) { x, e := walk.Period(m, i); return one(x, e) },
		"After":  func() (result, api.Errno) { x, e := walk.After(m, from, steps); return one(x, e) },
		"Reach":  func() (result, api.Errno) { x, e := walk.Reach(m, set); return one(x, e) },
		"Time":   func() (result, api.Errno) { x, e := walk.Time(m, set); return one(x, e) },
		"Shares": func() (result, api.Errno) { x, e := walk.Shares(m, i); return one(x, e) },
		"Trees":  func() (result, api.Errno) { x, e := walk.Trees(m, i); return one(x, e) },
		"Return": func() (result, api.Errno) { x, e := walk.Return(m, i); return one(x, e) },
		"Back":   func() (result, api.Errno) { x, e := walk.Back(m); return one(x, e) },
		"Balanced": func() (result, api.Errno) {
			ring, is, e := walk.Balanced(m)
			return result{ring, is}, e
		},
	}
}

// refuses checks that a call returns an error and nothing else.
func refuses(t *testing.T, name string, want api.Errno, call func() (result, api.Errno)) {
	t.Helper()
	x, e := call()
	if e != want {
		t.Errorf("%s: error %d instead of %d", name, e, want)
	}
	for _, part := range x {
		if !isZero(part) {
			t.Errorf("%s: %.100s next to an error", name, fmt.Sprint(part))
		}
	}
}
