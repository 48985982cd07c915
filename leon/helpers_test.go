package leon_test

import (
	"fmt"
	"math/big"
	"math/rand"
	"reflect"
	"strings"
	"testing"

	"squeegee/api"
	"squeegee/leon"
	"squeegee/num"
)

// read is the fraction of a canonical form.
func read(s string) num.Rat {
	r, e := num.Parse(s)
	if e != api.OK {
		panic("not a fraction: " + s)
	}
	return r
}

// list is a list of fractions, with spaces between them.
func list(s string) []num.Rat {
	var out []num.Rat
	for _, f := range strings.Fields(s) {
		out = append(out, read(f))
	}
	return out
}

// matrix is a matrix: rows with ; between them.
func matrix(s string) [][]num.Rat {
	var out [][]num.Rat
	for _, row := range strings.Split(s, ";") {
		out = append(out, list(row))
	}
	return out
}

// show writes a list.
func show(l []num.Rat) string {
	var out []string
	for _, r := range l {
		out = append(out, r.String())
	}
	return strings.Join(out, " ")
}

// showRows writes a matrix.
func showRows(m [][]num.Rat) string {
	var out []string
	for _, row := range m {
		out = append(out, show(row))
	}
	return strings.Join(out, ";")
}

// isZero reports whether a result is the zero value.
func isZero(x any) bool {
	v := reflect.ValueOf(x)
	return !v.IsValid() || v.IsZero() || v.Kind() == reflect.Slice && v.Len() == 0
}

// must is a result that has no error.
func must[T any](t *testing.T) func(T, api.Errno) T {
	return func(x T, e api.Errno) T {
		t.Helper()
		if e != api.OK {
			t.Fatalf("error %d", e)
		}
		return x
	}
}

// exact is a fraction of math/big.
func exact(r num.Rat) *big.Rat {
	out, ok := new(big.Rat).SetString(r.String())
	if !ok {
		panic("not a fraction: " + r.String())
	}
	return out
}

func exactList(l []num.Rat) []*big.Rat {
	var out []*big.Rat
	for _, r := range l {
		out = append(out, exact(r))
	}
	return out
}

func exactRows(m [][]num.Rat) [][]*big.Rat {
	var out [][]*big.Rat
	for _, row := range m {
		out = append(out, exactList(row))
	}
	return out
}

func plus(a, b *big.Rat) *big.Rat  { return new(big.Rat).Add(a, b) }
func minus(a, b *big.Rat) *big.Rat { return new(big.Rat).Sub(a, b) }
func times(a, b *big.Rat) *big.Rat { return new(big.Rat).Mul(a, b) }
func over(a, b *big.Rat) *big.Rat  { return new(big.Rat).Quo(a, b) }

func whole(n int) *big.Rat { return new(big.Rat).SetInt64(int64(n)) }

// product is the sum of the products of the elements of two lists.
func product(a, b []*big.Rat) *big.Rat {
	out := new(big.Rat)
	for i := range a {
		out = plus(out, times(a[i], b[i]))
	}
	return out
}

// usedBy is what an output uses.
func usedBy(a [][]*big.Rat, x []*big.Rat) []*big.Rat {
	var out []*big.Rat
	for _, row := range a {
		out = append(out, product(row, x))
	}
	return out
}

// leftBy is what an output leaves.
func leftBy(a [][]*big.Rat, x []*big.Rat) []*big.Rat {
	out := usedBy(a, x)
	for i := range x {
		out[i] = minus(x[i], out[i])
	}
	return out
}

// same reports whether a list has just these fractions.
func same(l []num.Rat, want []*big.Rat) bool {
	for i, r := range exactList(l) {
		if len(l) != len(want) || r.Cmp(want[i]) != 0 {
			return false
		}
	}
	return len(l) == len(want)
}

// mirror is a matrix with rows and columns exchanged.
func mirror[T any](m [][]T) [][]T {
	out := make([][]T, len(m[0]))
	for _, row := range m {
		for j, r := range row {
			out[j] = append(out[j], r)
		}
	}
	return out
}

// digits is the number of digits of the longest numerator or denominator.
func digits(l []num.Rat) int {
	out := 0
	for _, r := range l {
		top, low := r.Parts()
		out = max(out, len(strings.TrimPrefix(top, "-")), len(low))
	}
	return out
}

// ratio is a fraction of two numbers.
func ratio(a, b int64) num.Rat {
	r, e := num.Make(a, b)
	if e != api.OK {
		panic("a division by 0")
	}
	return r
}

// someTable is a table in which some percent of the elements are above 0, at most most/low.
func someTable(random *rand.Rand, n, density int, most, low int64) [][]num.Rat {
	var out [][]num.Rat
	for range n {
		var row []num.Rat
		for range n {
			r := num.Of(0)
			if random.Intn(100) < density {
				r = ratio(1+random.Int63n(most), low)
			}
			row = append(row, r)
		}
		out = append(out, row)
	}
	return out
}

// tables are many tables of all kinds; about half of them are productive, and some are just not.
func tables(random *rand.Rand, number int) [][][]num.Rat {
	var out [][][]num.Rat
	for k := range number {
		n := 1 + random.Intn(8)
		low := []int64{2, 12, 97, 1000, 999999}[k%5]
		density := []int{0, 15, 30, 60, 100}[random.Intn(5)]
		most := max(1, low*200*int64(1+random.Intn(3))/int64(max(1, n*density)))
		a := someTable(random, n, density, min(most, 999999), low)
		if random.Intn(5) == 0 {
			a = balanced(random, n)
		}
		out = append(out, a)
	}
	return out
}

// balanced is a table each of whose columns adds up to 1: what is made is just used.
func balanced(random *rand.Rand, n int) [][]num.Rat {
	var columns [][]num.Rat
	for range n {
		low := int64(1 + random.Intn(60))
		parts := make([]int64, n)
		for range low {
			parts[random.Intn(n)]++
		}
		var column []num.Rat
		for _, p := range parts {
			column = append(column, ratio(p, low))
		}
		columns = append(columns, column)
	}
	return mirror(columns)
}

// primes are the first prime numbers below a number.
func primes(below int64, number int) []int64 {
	var out []int64
	for n := below - 1; len(out) < number; n-- {
		if big.NewInt(n).ProbablyPrime(0) { // which is sure below 2^64
			out = append(out, n)
		}
	}
	return out
}

// primeTable has a prime of six digits of its own as each denominator. The elements are about a/b.
func primeTable(a, b int64) [][]num.Rat {
	list := primes(1000000, 64)
	var out [][]num.Rat
	for i := range 8 {
		var row []num.Rat
		for _, p := range list[8*i : 8*i+8] {
			row = append(row, ratio(min(p*a/b, 999999), p))
		}
		out = append(out, row)
	}
	return out
}

// someAmounts is a list of amounts, some of them long.
func someAmounts(random *rand.Rand, n int) []num.Rat {
	var out []num.Rat
	for range n {
		switch random.Intn(5) {
		case 0:
			out = append(out, num.Of(0))
		case 1:
			out = append(out, ratio(random.Int63(), 1+random.Int63n(1<<62)))
		default:
			out = append(out, ratio(random.Int63n(50), 1+random.Int63n(12)))
		}
	}
	return out
}

// isProductive decides by elimination, without exchanging rows: the pivots are the quotients of the corners.
func isProductive(a [][]num.Rat) bool {
	m := exactRows(a)
	for i, row := range m {
		for j := range row {
			row[j] = new(big.Rat).Neg(row[j])
		}
		row[i] = plus(row[i], whole(1))
	}
	for k := range m {
		if m[k][k].Sign() <= 0 {
			return false
		}
		for i := k + 1; i < len(m); i++ {
			factor := over(m[i][k], m[k][k])
			for j := range m {
				m[i][j] = minus(m[i][j], times(factor, m[k][j]))
			}
		}
	}
	return true
}

// result is all that a call returns but the error.
type result []any

// calls are all calls but IsEating.
func calls(a [][]num.Rat, x []num.Rat, n int) map[string]func() (result, api.Errno) {
	one := func(x any, e api.Errno) (result, api.Errno) { return result{x}, e }
	return map[string]func() (result, api.Errno){
		"Check":  func() (result, api.Errno) { return nil, leon.Check(a) },
		"Leaves": func() (result, api.Errno) { x, e := leon.Leaves(a, x); return one(x, e) },
		"Productive": func() (result, api.Errno) {
			x, is, e := leon.Productive(a)
			return result{x, is}, e
		},
		"Eats": func() (result, api.Errno) {
			x, is, e := leon.Eats(a)
			return result{x, is}, e
		},
		"Corners":     func() (result, api.Errno) { x, e := leon.Corners(a); return one(x, e) },
		"Outputs":     func() (result, api.Errno) { x, e := leon.Outputs(a, x); return one(x, e) },
		"Prices":      func() (result, api.Errno) { x, e := leon.Prices(a, x); return one(x, e) },
		"Multipliers": func() (result, api.Errno) { x, e := leon.Multipliers(a); return one(x, e) },
		"Rounds":      func() (result, api.Errno) { x, e := leon.Rounds(a, x, n); return one(x, e) },
		"Uses":        func() (result, api.Errno) { x, e := leon.Uses(a); return one(x, e) },
		"Between": func() (result, api.Errno) {
			least, greatest, e := leon.Between(a, n)
			return result{least, greatest}, e
		},
	}
}

// refuses checks that a call returns an error and nothing else.
func refuses(t *testing.T, name string, want api.Errno, call func() (result, api.Errno)) {
	t.Helper()
	x, e := call()
	if e != want {
		t.Errorf("%s: error %d instead of %d", name, e, want)
	}
	for _, part := range x {
		if !isZero(part) {
			t.Errorf("%s: %.100s next to an error", name, fmt.Sprint(part))
		}
	}
}
