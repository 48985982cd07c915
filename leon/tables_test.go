package leon_test

import (
	"fmt"
	"math/rand"
	"strings"
	"testing"

	"squeegee/api"
	"squeegee/leon"
	"squeegee/num"
)

// notTables are matrices that are no tables.
func notTables() map[string][][]num.Rat {
	out := map[string][][]num.Rat{"nil": nil, "an empty row": {{}}, "two empty rows": {{}, {}}, "9 rows": nil, "9 columns": nil}
	for _, s := range []string{"1 0", "1;0", "1 0;1", "1 0;1 0 0", "1 0;0 1;0 0", "1 0 0;0 1 0", "-1", "-1/2", "0 1;-1/999999 0", "1000000", "1/1000000", "0 1;1 999999/1000003", "0 0;0 1000001/3", "1" + strings.Repeat("0", 20), "1/1" + strings.Repeat("0", 20), "-1" + strings.Repeat("0", 20), "-1000000"} {
		out[s] = matrix(s)
	}
	wide := make([]num.Rat, 9)
	out["9 columns"] = [][]num.Rat{wide}
	for range 9 {
		out["9 rows"] = append(out["9 rows"], wide)
	}
	return out
}

// P7.1: what is a table.
func TestCheck(t *testing.T) {
	for _, s := range []string{"0", "1", "1/2", "999999", "1/999999", "999999/999998", "0 0;0 0", "0 1;1 0", "999998/999999 0;1/3 999999", "0 2;1/4 0"} {
		if e := leon.Check(matrix(s)); e != api.OK {
			t.Errorf("Check of %s: %d", s, e)
		}
	}
	random := rand.New(rand.NewSource(1))
	for n := 1; n <= 8; n++ {
		if e := leon.Check(someTable(random, n, 70, 999999, 999999)); e != api.OK {
			t.Errorf("Check of %d firms: %d", n, e)
		}
	}
	for name, a := range notTables() {
		if e := leon.Check(a); e != api.ErrTable {
			t.Errorf("Check of %.50s: %d", name, e)
		}
	}
}

// P7.1: ErrTable comes first, whatever else is wrong.
func TestNoTable(t *testing.T) {
	for name, a := range notTables() {
		for _, x := range []string{"", "1", "1 1", "-1 1", "1" + strings.Repeat("0", 20), "1 1 1 1 1 1 1 1 1"} {
			for _, n := range []int{-1, 0, 1, 20, 21} {
				for called, call := range calls(a, list(x), n) {
					refuses(t, fmt.Sprintf("%s of %.50s with %.50s and %d", called, name, x, n), api.ErrTable, call)
				}
			}
			if leon.IsEating(a, list(x)) {
				t.Errorf("IsEating of %.50s, %s", name, x)
			}
		}
	}
}

// P7.1: the errors of lists, and their order, also before those of P7.3 and P7.4.
func TestLists(t *testing.T) {
	long, nines := "1"+strings.Repeat("0", 20), strings.Repeat("9", api.MaxDigits)
	just := strings.Repeat("9", 20)
	for _, x := range []struct {
		x    string
		want api.Errno
	}{
		{"", api.ErrShape}, {"1", api.ErrShape}, {"1 1 1", api.ErrShape}, {"-1", api.ErrShape}, {long, api.ErrShape}, {"1 1 " + long, api.ErrShape}, {"1 1 -1", api.ErrShape},
		{long + " 1", api.ErrArg}, {"1 " + long, api.ErrArg}, {"1 -" + long, api.ErrArg}, {"1/" + long + " 0", api.ErrArg}, {"0 -1/" + long, api.ErrArg}, {"-1 " + long, api.ErrArg}, {nines + " 1", api.ErrArg}, {"1 1/" + nines, api.ErrArg}, {nines + " " + nines, api.ErrArg},
	} {
		for _, s := range []string{"0 2;1/4 0", "1 0;0 1", "0 0;0 0"} {
			for _, n := range []int{0, 20, 21, -1} {
				for _, name := range []string{"Leaves", "Outputs", "Prices", "Rounds"} {
					refuses(t, fmt.Sprintf("%s of %s with %.50s and %d", name, s, x.x, n), x.want, calls(matrix(s), list(x.x), n)[name])
				}
			}
		}
	}
	for _, x := range []string{"-1 1", "1 -1/2", "-1 -1", "0 -1/" + just, "-" + just + " 1"} {
		for _, s := range []string{"0 2;1/4 0", "1 0;0 1"} {
			for _, name := range []string{"Outputs", "Prices", "Rounds"} {
				refuses(t, fmt.Sprintf("%s of %s with %s", name, s, x), api.ErrArg, calls(matrix(s), list(x), 3)[name])
			}
			checkLeaves(t, matrix(s), list(x))
		}
	}
	for _, x := range []string{just + " 1", "1 1/" + just, "0 0", "3/" + just[1:] + "7 0"} {
		for _, name := range []string{"Leaves", "Outputs", "Prices", "Rounds"} {
			if _, e := calls(matrix("0 2;1/4 0"), list(x), 3)[name](); e != api.OK {
				t.Errorf("%s with %s: %d", name, x, e)
			}
		}
	}
}

func checkLeaves(t *testing.T, a [][]num.Rat, x []num.Rat) {
	t.Helper()
	left, e := leon.Leaves(a, x)
	if e != api.OK || !same(left, leftBy(exactRows(a), exactList(x))) {
		t.Fatalf("Leaves of %s, %s: %s, %d", showRows(a), show(x), show(left), e)
	}
}

// P7.1: Leaves.
func TestLeaves(t *testing.T) {
	for _, x := range []struct{ a, x, want string }{
		{"1/2", "2", "1"}, {"1/2", "0", "0"}, {"1/2", "-2", "-1"}, {"2", "3", "-3"}, {"0 2;1/4 0", "6 5/2", "1 1"}, {"0 2;1/4 0", "1 0", "1 -1/4"}, {"0 2;1/4 0", "0 1", "-2 1"}, {"0 2;1/4 0", "-1 1/2", "-2 3/4"}, {"1 0;0 1", "7 8", "0 0"},
	} {
		if left, e := leon.Leaves(matrix(x.a), list(x.x)); show(left) != x.want || e != api.OK {
			t.Errorf("Leaves of %s, %s: %s, %d", x.a, x.x, show(left), e)
		}
	}
	random := rand.New(rand.NewSource(2))
	for _, a := range tables(random, 300) {
		x := someAmounts(random, len(a))
		for i := range x {
			if random.Intn(3) == 0 {
				x[i] = x[i].Neg()
			}
		}
		checkLeaves(t, a, x)
	}
	var x []num.Rat
	for _, p := range primes(1<<60, 8) {
		x = append(x, ratio(-9e18, p))
	}
	checkLeaves(t, primeTable(1, 20), x)
}

// usesOf tells by following each way, step by step, which firms a firm uses.
func usesOf(a [][]num.Rat, i int) int {
	out := 0
	var visit func(j int)
	visit = func(j int) {
		for k := range a {
			if a[k][j].Sign() > 0 && out>>k&1 == 0 {
				out |= 1 << k
				visit(k)
			}
		}
	}
	visit(i)
	return out
}

// P7.1: Uses.
func TestUses(t *testing.T) {
	for _, x := range []struct{ a, want string }{
		{"0", "[0]"}, {"1/2", "[1]"}, {"0 1/2;0 0", "[0 1]"}, {"0 0;1/2 0", "[2 0]"}, {"0 2;1/4 0", "[3 3]"}, {"1 0;0 0", "[1 0]"}, {"0 0;0 5", "[0 2]"}, {"0 0 0;1 0 0;0 1 0", "[6 4 0]"}, {"0 1 0;0 0 1;0 0 0", "[0 1 3]"}, {"0 0 1;1 0 0;0 1 0", "[7 7 7]"}, {"0 0 0;1/999999 1 0;0 0 0", "[2 2 0]"},
	} {
		if uses, e := leon.Uses(matrix(x.a)); fmt.Sprint(uses) != x.want || e != api.OK {
			t.Errorf("Uses of %s: %v, %d", x.a, uses, e)
		}
	}
	random := rand.New(rand.NewSource(3))
	for _, a := range tables(random, 600) {
		uses, e := leon.Uses(a)
		if e != api.OK || len(uses) != len(a) {
			t.Fatalf("Uses of %s: %v, %d", showRows(a), uses, e)
		}
		for i, set := range uses {
			if set != usesOf(a, i) {
				t.Fatalf("Uses of %s: %v", showRows(a), uses)
			}
		}
	}
}
