package num_test

import (
	"math/rand"
	"strings"
	"testing"

	"squeegee/api"
	"squeegee/num"
)

// P1.3: Solve, with no, one and many solutions.
func TestSolve(t *testing.T) {
	for _, c := range []struct {
		m, b, want string
		free       int
	}{
		{"2", "6", "3", 0},
		{"0", "0", "0", 1},
		{"1 2 3", "6", "6 0 0", 2},
		{"0 2 3", "6", "0 3 0", 2},
		{"0 0 3", "6", "0 0 2", 2},
		{"1 2;3 4", "5 6", "-4 9/2", 0},
		{"1 2;3 4;4 6", "5 6 11", "-4 9/2", 0},
		{"0 1 1;0 2 1", "3 4", "0 1 2", 1},
		{"1 2 0;2 4 1", "3 7", "3 0 1", 1},
		{"0 1;1 0", "1/2 1/3", "1/3 1/2", 0},
		{"0 0;0 0;0 0", "0 0 0", "0 0", 2},
		{"1 1 1;1 1 2;1 1 4", "1 2 4", "0 0 1", 1},
		{"1/2 1/3;1/4 1/5", "1 1", "-8 15", 0},
	} {
		x, free, e := num.Solve(matrix(t, c.m), list(t, c.b))
		if show(x) != c.want || free != c.free || e != api.OK {
			t.Errorf("%s = %s: %s, %d, %d", c.m, c.b, show(x), free, e)
		}
	}
	for _, c := range [][2]string{{"0", "1"}, {"1 1;1 1", "1 2"}, {"1;2", "1 1"}, {"1 2 3;4 5 6;7 8 9", "1 0 0"}, {"0 0;1 0", "1 0"}, {"0 1 0;0 1 0", "1 1/2"}} {
		if x, free, e := num.Solve(matrix(t, c[0]), list(t, c[1])); e != api.ErrNone || len(x) > 0 || free != 0 {
			t.Errorf("%s = %s: %v, %d, %d", c[0], c[1], x, free, e)
		}
	}
}

// P1.3: the errors of Solve, and their order.
func TestSolveErrors(t *testing.T) {
	long := "1" + strings.Repeat("0", 20)
	for _, c := range []struct {
		m, b string
		want api.Errno
	}{
		{"1 2 3", "", api.ErrShape},
		{"1 2 3", "1 2 3", api.ErrShape},
		{"1;2", "1", api.ErrShape},
		{"1;2", "1 2 3", api.ErrShape},
		{"1", long + " 1", api.ErrShape},
		{"1", long, api.ErrSize},
		{"1", "1/" + long, api.ErrSize},
		{"0;0", "1 " + long, api.ErrSize},
		{long, "1 1", api.ErrSize},
		{"1 2;3", long, api.ErrShape},
		{"0", "1", api.ErrNone},
		{"1", strings.Repeat("9", 20), api.OK},
		{"1", "-1/" + strings.Repeat("9", 20), api.OK},
	} {
		x, free, e := num.Solve(matrix(t, c.m), list(t, c.b))
		if e != c.want || e != api.OK && (len(x) > 0 || free != 0) {
			t.Errorf("%s = %s: %v, %d, %d", c.m, c.b, x, free, e)
		}
	}
	if _, _, e := num.Solve(filled(9, 1, num.Of(1)), list(t, long)); e != api.ErrLong {
		t.Errorf("9 rows: %d", e)
	}
}

// P1.3: Kernel.
func TestKernel(t *testing.T) {
	for m, want := range map[string]string{
		"1": "", "0": "1", "1 2;3 4": "", "1 2 3": "-2 1 0;-3 0 1", "0 1 2": "1 0 0;0 -2 1", "0 0;0 0": "1 0;0 1", "1 2 0;2 4 1": "-2 1 0",
		"1 2 3;4 5 6;7 8 9": "1 -2 1", "2 1": "-1/2 1", "0 3 0 1;0 0 0 2": "1 0 0 0;0 0 1 0", "1;2;3": "",
	} {
		if k, e := num.Kernel(matrix(t, m)); showRows(k) != want || e != api.OK {
			t.Errorf("Kernel of %s: %s, %d", m, showRows(k), e)
		}
	}
}

// P1.3: what Solve and Kernel return solves the equations, also the largest ones.
func TestSolutionsSolve(t *testing.T) {
	random := rand.New(rand.NewSource(6))
	for i := range 150 {
		rows, columns := 1+random.Intn(8), 1+random.Intn(8)
		m, _ := someMatrix(t, random, rows, columns, []int{1, 20}[i%2])
		if i%3 > 0 {
			m = dependent(t, random, m)
		}
		b, _ := someMatrix(t, random, rows, 1, []int{1, 20}[i%2])
		checkSolution(t, m, transposed(b)[0])
		checkKernel(t, m)
	}
}

// dependent makes some rows the sum of others, and some columns multiples of others or 0.
func dependent(t *testing.T, random *rand.Rand, m [][]num.Rat) [][]num.Rat {
	t.Helper()
	at := random.Intn(len(m[0]))
	by := num.Of(int64(random.Intn(3)))
	for _, row := range m {
		r := must[num.Rat](t)(row[random.Intn(at+1)/2].Mul(by))
		if num.Check([][]num.Rat{{r}}) == api.OK {
			row[at] = r
		}
	}
	m[random.Intn(len(m))] = append([]num.Rat(nil), m[0]...)
	return m
}

// checkSolution checks the solution, or that there is none.
func checkSolution(t *testing.T, m [][]num.Rat, b []num.Rat) {
	t.Helper()
	rank := must[int](t)(num.Rank(m))
	x, free, e := num.Solve(m, b)
	if e == api.ErrNone {
		if len(m[0]) < 8 {
			wider := make([][]num.Rat, len(m))
			for i, row := range m {
				wider[i] = append(append([]num.Rat(nil), row...), b[i])
			}
			if must[int](t)(num.Rank(wider)) == rank {
				t.Fatalf("%s = %s has a solution", showRows(m), show(b))
			}
		}
		return
	}
	column := transposed([][]num.Rat{x})
	if got := show(transposed(times(t, m, column))[0]); e != api.OK || got != show(b) || free != len(m[0])-rank {
		t.Fatalf("%s: %s is not %s, or %d unknowns, %d", showRows(m), got, show(b), free, e)
	}
	for j := range x {
		if isFree(t, m, j) && x[j].Sign() != 0 {
			t.Fatalf("%s = %s: unknown %d is %s", showRows(m), show(b), j, x[j])
		}
	}
}

// isFree reports by ranks whether column j is a sum of multiples of the columns before it.
func isFree(t *testing.T, m [][]num.Rat, j int) bool {
	t.Helper()
	columns := transposed(m)
	before := 0
	if j > 0 {
		before = must[int](t)(num.Rank(columns[:j]))
	}
	return must[int](t)(num.Rank(columns[:j+1])) == before
}

// checkKernel checks the solutions with 0 beside them.
func checkKernel(t *testing.T, m [][]num.Rat) {
	t.Helper()
	var free []int
	for j := range m[0] {
		if isFree(t, m, j) {
			free = append(free, j)
		}
	}
	kernel := must[[][]num.Rat](t)(num.Kernel(m))
	if len(kernel) != len(free) {
		t.Fatalf("%s: %d solutions, %d unknowns", showRows(m), len(kernel), len(free))
	}
	for i, x := range kernel {
		for _, r := range transposed(times(t, m, transposed([][]num.Rat{x})))[0] {
			if r.Sign() != 0 {
				t.Fatalf("%s: %s is no solution", showRows(m), show(x))
			}
		}
		for k, j := range free {
			if want := map[bool]string{true: "1", false: "0"}[k == i]; x[j].String() != want {
				t.Fatalf("%s: %s, unknown %d", showRows(m), show(x), j)
			}
		}
	}
}

// R4: no call changes its arguments, reads beyond them, or keeps or shares their memory.
func TestArguments(t *testing.T) {
	m := matrix(t, "0 2 3 99;4 5 6 99;4 7 9 99;99 99 99 99")
	rows := m[:3]
	for i := range rows {
		rows[i] = rows[i][:3]
	}
	b := list(t, "1 2 3 99")[:3]
	call := func() string {
		d, _ := num.Det(rows)
		n, _ := num.Rank(rows)
		x, free, _ := num.Solve(rows, b)
		k, _ := num.Kernel(rows)
		_, e := num.Inverse(rows)
		out := strings.Join([]string{d.String(), num.Of(int64(n)).String(), show(x), num.Of(int64(free)).String(), showRows(k), num.Of(int64(e)).String()}, "|")
		for _, l := range append(k, x) {
			for j := range l {
				l[j] = num.Of(77)
			}
		}
		return out
	}
	first := call()
	if first != "0|2|-1/8 1/2 0|1|3/8 -3/2 1|4" {
		t.Errorf("%s", first)
	}
	if second := call(); second != first {
		t.Errorf("%s, and then %s", first, second)
	}
	for i := range rows {
		rows[i] = rows[i][:4]
	}
	if showRows(m) != "0 2 3 99;4 5 6 99;4 7 9 99;99 99 99 99" || show(b[:4]) != "1 2 3 99" {
		t.Errorf("%s, %s", showRows(m), show(b[:4]))
	}
}
