package num_test

import (
	"math/big"
	"math/rand"
	"strings"
	"testing"

	"squeegee/api"
	"squeegee/num"
)

// faults are matrices that are none, with their errors, the first of several.
func faults(t *testing.T) map[string]struct {
	m    [][]num.Rat
	want api.Errno
} {
	long := read(t, "1"+strings.Repeat("0", 20))
	type fault = struct {
		m    [][]num.Rat
		want api.Errno
	}
	tooWide := filled(2, 8, num.Of(1))
	tooWide[1] = filled(1, 9, num.Of(1))[0]
	return map[string]fault{
		"no rows":                   {nil, api.ErrShape},
		"no rows, not nil":          {[][]num.Rat{}, api.ErrShape},
		"an empty row":              {[][]num.Rat{{}}, api.ErrShape},
		"a nil row":                 {[][]num.Rat{nil, nil}, api.ErrShape},
		"an empty first row":        {[][]num.Rat{{}, {num.Of(1)}}, api.ErrShape},
		"an empty second row":       {[][]num.Rat{{num.Of(1)}, {}}, api.ErrShape},
		"a shorter row":             {matrix(t, "1 2;3"), api.ErrShape},
		"a longer row":              {matrix(t, "1 2;3 4;5 6 7"), api.ErrShape},
		"a longer row of 9":         {tooWide, api.ErrShape},
		"9 rows":                    {filled(9, 1, num.Of(1)), api.ErrLong},
		"9 columns":                 {filled(1, 9, num.Of(1)), api.ErrLong},
		"9 rows and columns":        {filled(9, 9, num.Of(1)), api.ErrLong},
		"9 empty rows":              {make([][]num.Rat, 9), api.ErrLong},
		"21 digits":                 {[][]num.Rat{{long}}, api.ErrSize},
		"21 digits below 0":         {[][]num.Rat{{long.Neg()}}, api.ErrSize},
		"21 digits below the line":  {matrix(t, "1 1;1 1/1"+strings.Repeat("0", 20)), api.ErrSize},
		"21 digits not in a square": {[][]num.Rat{{num.Of(1), long}}, api.ErrSize},
		"21 digits in 9 rows":       {filled(9, 1, long), api.ErrLong},
		"21 digits in 9 columns":    {filled(1, 9, long), api.ErrLong},
		"21 digits and a shape":     {[][]num.Rat{{long, long}, {long}}, api.ErrShape},
		"9 columns and a shape":     {[][]num.Rat{filled(1, 9, long)[0], nil}, api.ErrLong},
	}
}

// P1.2: Check, and that all functions that take a matrix return it first.
func TestCheck(t *testing.T) {
	for name, c := range faults(t) {
		if e := num.Check(c.m); e != c.want {
			t.Errorf("%s: Check %d", name, e)
		}
		if d, e := num.Det(c.m); e != c.want || !isZero(d) {
			t.Errorf("%s: Det %s, %d", name, d, e)
		}
		if n, e := num.Rank(c.m); e != c.want || n != 0 {
			t.Errorf("%s: Rank %d, %d", name, n, e)
		}
		if x, n, e := num.Solve(c.m, nil); e != c.want || len(x) > 0 || n != 0 {
			t.Errorf("%s: Solve %v, %d, %d", name, x, n, e)
		}
		if k, e := num.Kernel(c.m); e != c.want || len(k) > 0 {
			t.Errorf("%s: Kernel %v, %d", name, k, e)
		}
		if i, e := num.Inverse(c.m); e != c.want || len(i) > 0 {
			t.Errorf("%s: Inverse %v, %d", name, i, e)
		}
	}
	nines := strings.Repeat("9", 20)
	for name, m := range map[string][][]num.Rat{
		"one": matrix(t, "0"), "8 rows": filled(8, 1, num.Of(1)), "8 columns": filled(1, 8, num.Of(1)), "8 of both": filled(8, 8, num.Of(1)),
		"20 digits": matrix(t, "-"+nines+" 1/"+nines), "the zero value": filled(2, 3, num.Rat{}),
	} {
		if e := num.Check(m); e != api.OK {
			t.Errorf("%s: %d", name, e)
		}
	}
}

// P1.2: determinants of small matrices.
func TestDet(t *testing.T) {
	for s, want := range map[string]string{
		"0": "0", "-7/3": "-7/3", "1 2;3 4": "-2", "3 4;1 2": "2", "2 4;1 2": "0", "0 0;0 0": "0", "1/2 1/3;1/5 1/7": "1/210",
		"0 1;1 0": "-1", "0 1 0;0 0 1;1 0 0": "1", "0 0 1;0 1 0;1 0 0": "-1", "0 0 2;0 3 0;5 0 0": "-30", "0 1 2;0 3 4;0 5 6": "0",
		"2 0 0;0 -3 0;0 0 1/6": "-1", "1 2 3;4 5 6;7 8 9": "0", "1 2 3;4 5 6;7 8 10": "-3",
	} {
		if d, e := num.Det(matrix(t, s)); d.String() != want || e != api.OK {
			t.Errorf("Det of %s: %s, %d", s, d, e)
		}
	}
	for _, s := range []string{"1 2", "1;2", "1 2 3;4 5 6"} {
		if d, e := num.Det(matrix(t, s)); e != api.ErrShape || !isZero(d) {
			t.Errorf("Det of %s: %s, %d", s, d, e)
		}
		if i, e := num.Inverse(matrix(t, s)); e != api.ErrShape || len(i) > 0 {
			t.Errorf("Inverse of %s: %v, %d", s, i, e)
		}
	}
}

// P1.2: inverses of small matrices.
func TestInverse(t *testing.T) {
	for s, want := range map[string]string{
		"2": "1/2", "-2/3": "-3/2", "1 2;3 4": "-2 1;3/2 -1/2", "0 1;1 0": "0 1;1 0", "0 2 0;0 0 3;5 0 0": "0 0 1/5;1/2 0 0;0 1/3 0", "1/2 0;1/3 1": "2 0;-2/3 1",
	} {
		if i, e := num.Inverse(matrix(t, s)); showRows(i) != want || e != api.OK {
			t.Errorf("Inverse of %s: %s, %d", s, showRows(i), e)
		}
	}
	for _, s := range []string{"0", "1 2;2 4", "0 0;0 1", "1 2 3;4 5 6;7 8 9"} {
		if i, e := num.Inverse(matrix(t, s)); e != api.ErrNone || len(i) > 0 {
			t.Errorf("Inverse of %s: %v, %d", s, i, e)
		}
	}
}

// P1.2: ranks of small matrices.
func TestRank(t *testing.T) {
	for s, want := range map[string]int{
		"0": 0, "0 0;0 0;0 0": 0, "-1/2": 1, "1 2 3": 1, "1;2;0": 1, "1 2;2 4": 1, "1 2;3 4": 2, "0 1;0 2;0 3": 1, "1 2 3;4 5 6;7 8 9": 2, "0 0 1;0 1 0;1 0 0": 3,
		"0 1 1;0 2 1": 2, "1/2 1/3;1/4 1/6": 1, "1/2 1/3;1/4 1/7": 2,
	} {
		if n, e := num.Rank(matrix(t, s)); n != want || e != api.OK {
			t.Errorf("Rank of %s: %d, %d", s, n, e)
		}
	}
}

// P1.2: the largest matrices, against sums over all permutations by the first row.
func TestLargeDeterminants(t *testing.T) {
	random := rand.New(rand.NewSource(5))
	for n := 1; n <= 8; n++ {
		m, x := someMatrix(t, random, n, n, 20)
		want := expand(x)
		if d, e := num.Det(m); d.String() != canonical(want) || e != api.OK {
			t.Errorf("%d rows: %s, %d instead of %s", n, d, e, canonical(want))
		}
		i, e := num.Inverse(m)
		if want.Sign() == 0 && e != api.ErrNone || want.Sign() != 0 && (e != api.OK || showRows(times(t, m, i)) != showRows(identity(n))) {
			t.Errorf("%d rows: Inverse %d", n, e)
		}
	}
}

// someMatrix is some matrix, of both kinds.
func someMatrix(t *testing.T, random *rand.Rand, rows, columns, most int) ([][]num.Rat, [][]*big.Rat) {
	t.Helper()
	m, x := make([][]num.Rat, rows), make([][]*big.Rat, rows)
	for i := range m {
		for range columns {
			a, b := fraction(t, random, most)
			for num.Check([][]num.Rat{{a}}) != api.OK {
				a, b = fraction(t, random, most)
			}
			m[i], x[i] = append(m[i], a), append(x[i], b)
		}
	}
	return m, x
}

// expand is the determinant by its definition, by the first row.
func expand(x [][]*big.Rat) *big.Rat {
	if len(x) == 0 {
		return big.NewRat(1, 1)
	}
	out := new(big.Rat)
	for j, f := range x[0] {
		var rest [][]*big.Rat
		for _, row := range x[1:] {
			rest = append(rest, append(append([]*big.Rat(nil), row[:j]...), row[j+1:]...))
		}
		part := new(big.Rat).Mul(f, expand(rest))
		if j%2 == 1 {
			part.Neg(part)
		}
		out.Add(out, part)
	}
	return out
}

// times is the product of two matrices.
func times(t *testing.T, m, n [][]num.Rat) [][]num.Rat {
	t.Helper()
	out := filled(len(m), len(n[0]), num.Rat{})
	for i := range out {
		for j := range out[i] {
			for k := range n {
				part := must[num.Rat](t)(m[i][k].Mul(n[k][j]))
				out[i][j] = must[num.Rat](t)(out[i][j].Add(part))
			}
		}
	}
	return out
}

func identity(n int) [][]num.Rat {
	out := filled(n, n, num.Rat{})
	for i := range out {
		out[i][i] = num.Of(1)
	}
	return out
}

// transposed has the columns of m as rows.
func transposed(m [][]num.Rat) [][]num.Rat {
	out := filled(len(m[0]), len(m), num.Rat{})
	for i, row := range m {
		for j, r := range row {
			out[j][i] = r
		}
	}
	return out
}
