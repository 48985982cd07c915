package num_test

import (
	"math/big"
	"math/rand"
	"reflect"
	"strings"
	"testing"

	"squeegee/api"
	"squeegee/num"
)

// read is the fraction of a canonical form.
func read(t *testing.T, s string) num.Rat {
	t.Helper()
	r, e := num.Parse(s)
	if e != api.OK {
		t.Fatalf("Parse(%.40q): error %d", s, e)
	}
	return r
}

// list is a list of fractions, with spaces between them.
func list(t *testing.T, s string) []num.Rat {
	t.Helper()
	var out []num.Rat
	for _, f := range strings.Fields(s) {
		out = append(out, read(t, f))
	}
	return out
}

// matrix is a matrix: rows with ; between them.
func matrix(t *testing.T, s string) [][]num.Rat {
	t.Helper()
	var out [][]num.Rat
	for _, row := range strings.Split(s, ";") {
		out = append(out, list(t, row))
	}
	return out
}

// filled is a matrix of one fraction.
func filled(rows, columns int, r num.Rat) [][]num.Rat {
	out := make([][]num.Rat, rows)
	for i := range out {
		out[i] = make([]num.Rat, columns)
		for j := range out[i] {
			out[i][j] = r
		}
	}
	return out
}

// show writes a list.
func show(l []num.Rat) string {
	var out []string
	for _, r := range l {
		out = append(out, r.String())
	}
	return strings.Join(out, " ")
}

// showRows writes a matrix.
func showRows(m [][]num.Rat) string {
	var out []string
	for _, row := range m {
		out = append(out, show(row))
	}
	return strings.Join(out, ";")
}

// isZero reports whether a result is the zero value.
func isZero(x any) bool {
	v := reflect.ValueOf(x)
	return v.IsZero() || v.Kind() == reflect.Slice && v.Len() == 0
}

// must is a result that has no error.
func must[T any](t *testing.T) func(T, api.Errno) T {
	return func(x T, e api.Errno) T {
		t.Helper()
		if e != api.OK {
			t.Fatalf("error %d", e)
		}
		return x
	}
}

// canonical is the canonical form of a fraction of math/big.
func canonical(r *big.Rat) string {
	if r.IsInt() {
		return r.Num().String()
	}
	return r.String()
}

// digits are some digits, without a leading zero; runs of 0 and of 9 are frequent, as they are where limbs carry.
func digits(random *rand.Rand, length int) string {
	out := make([]byte, 0, length)
	for len(out) < length {
		c, run := byte('0'+random.Intn(10)), 1
		if kind := random.Intn(3); kind < 2 {
			c, run = "09"[kind], 1+random.Intn(20)
		}
		for range min(run, length-len(out)) {
			out = append(out, c)
		}
	}
	if out[0] == '0' {
		out[0] = byte('1' + random.Intn(9))
	}
	return string(out)
}

// fraction is some fraction, of both kinds.
func fraction(t *testing.T, random *rand.Rand, most int) (num.Rat, *big.Rat) {
	t.Helper()
	a, _ := new(big.Int).SetString(digits(random, 1+random.Intn(most)), 10)
	b, _ := new(big.Int).SetString(digits(random, 1+random.Intn(most)), 10)
	switch random.Intn(8) {
	case 0:
		a.SetInt64(0)
	case 1:
		b.SetInt64(1)
	case 2:
		a.Mul(a, b)
	}
	if random.Intn(2) == 0 {
		a.Neg(a)
	}
	r := new(big.Rat).SetFrac(a, b)
	return read(t, canonical(r)), r
}
