package walk_test

import (
	"fmt"
	"math"
	"math/rand"
	"slices"
	"strings"
	"testing"

	"squeegee/api"
	"squeegee/num"
	"squeegee/walk"
)

// unit is the chain that stays where it is.
func unit(n int) [][]num.Rat {
	out := make([][]num.Rat, n)
	for i := range out {
		out[i] = make([]num.Rat, n)
		out[i][i] = num.Of(1)
	}
	return out
}

// noChains are matrices that are no chains, and lists that are no matrices.
func noChains() map[string][][]num.Rat {
	nines := strings.Repeat("9", api.MaxDigits)
	out := map[string][][]num.Rat{
		"nothing": nil, "no rows": {}, "an empty row": {{}}, "two empty rows": {nil, nil}, "9 rows": unit(9), "9 rows of one": make([][]num.Rat, 9), "2 rows of 3": unit(3)[:2],
		"3 rows of 2": {list("1 0"), list("0 1"), list("1 0")}, "rows of 2 and 1": {list("1 0"), list("1")}, "rows of 1 and 2": {list("1"), list("1 0")}, "a row that lacks": {list("1 0"), nil}, "rows of 2 and 3": {list("1 0"), list("0 1 0")},
	}
	for _, s := range []string{
		"0", "2", "-1", "1/2", "999999/1000000", "1000000/999999", "1 1;0 1", "1/2 1/3;0 1", "0 1;0 0", "1/2 1/2;1/2 1/3", "2 -1;0 1", "-1 2;0 1", "0 1;3/2 -1/2",
		"1/1000000 999999/1000000;0 1", "0 1;1/1000000 999999/1000000", "1/3 2/3 0;0 1/1000003 1000002/1000003;0 0 1", "1/2 1/2 1/1000000;0 1 0;0 0 1", "1/1000001 1000000/1000001;0 1", nines, "1/" + nines, "-" + nines, nines + " 0;0 1",
	} {
		out[fmt.Sprintf("%.60s", s)] = matrix(s)
	}
	return out
}

// P6.1: what chains are.
func TestCheck(t *testing.T) {
	for _, s := range []string{
		"1", "1 0;0 1", "0 1;1 0", "1/2 1/2;1/3 2/3", "0 1;1/2 1/2", "1/999999 999998/999999;0 1", "0 2/3 1/3;1/3 0 2/3;2/3 1/3 0", "1/6 1/3 1/2;1/4 1/4 1/2;0 0 1",
		"1/999997 249991/999997 750005/999997;1 0 0;0 0 1", "329342/988027 351254/974153 299987/980051;0 1 0;0 1 0",
	} {
		if e := walk.Check(matrix(s)); e != api.OK {
			t.Errorf("Check of %s: %d", s, e)
		}
	}
	for n := 1; n <= 8; n++ {
		if e := walk.Check(unit(n)); e != api.OK {
			t.Errorf("Check of %d rows: %d", n, e)
		}
	}
	// the sums of half a row have denominators of more than 20 digits
	if e := walk.Check(primeChain()); e != api.OK {
		t.Errorf("Check of primes: %d", e)
	}
	for name, m := range noChains() {
		if e := walk.Check(m); e != api.ErrChain {
			t.Errorf("Check of %s: %d", name, e)
		}
	}
}

// P6.1: ErrChain comes before all other errors.
func TestNoChains(t *testing.T) {
	for name, m := range noChains() {
		for _, i := range []int{0, -1} {
			for call, do := range calls(m, nil, i, i, i) {
				refuses(t, call+" of "+name, api.ErrChain, do)
			}
		}
	}
}

// P6.1: ErrArg for elements and sets that are not there; it comes before ErrStuck.
func TestArguments(t *testing.T) {
	for _, m := range [][][]num.Rat{unit(1), unit(2), unit(8), matrix("1/2 1/2;0 1"), matrix("0 1;1 0"), primeChain()} {
		n := len(m)
		for _, i := range []int{-1, n, n + 1, 64, -64, math.MinInt, math.MaxInt, 1 << 32, -1 << 32} {
			all := calls(m, m[0], i, 1, 0)
			for _, name := range []string{"Period", "Shares", "Trees", "Return"} {
				refuses(t, fmt.Sprintf("%s of %d in %s", name, i, showRows(m)), api.ErrArg, all[name])
			}
		}
		for _, set := range []int{0, -1, 1 << n, 1<<n + 1, 1 << 32, 1<<32 + 1, math.MinInt, math.MinInt + 1, math.MaxInt} {
			all := calls(m, m[0], 0, set, 0)
			for _, name := range []string{"Reach", "Time"} {
				refuses(t, fmt.Sprintf("%s of %d in %s", name, set, showRows(m)), api.ErrArg, all[name])
			}
		}
	}
}

// P6.1: Classes.
func TestClasses(t *testing.T) {
	for _, x := range []struct{ m, want string }{
		{"1", "[0] [true]"}, {"1 0;0 1", "[0 1] [true true]"}, {"0 1;1 0", "[0 0] [true true]"}, {"1/2 1/2;0 1", "[0 1] [false true]"}, {"1 0;1/2 1/2", "[0 1] [true false]"},
		{"0 1 0;0 0 1;1 0 0", "[0 0 0] [true true true]"}, {"0 0 1;0 1 0;1 0 0", "[0 1 0] [true true true]"}, {"0 1/2 1/2;1/3 0 2/3;0 0 1", "[0 0 2] [false false true]"},
		{"0 0 0 1;0 0 1 0;0 1 0 0;1/2 1/2 0 0", "[0 1 1 0] [false true true false]"}, {"0 1 0 0;0 0 1 0;0 0 0 1;0 0 0 1", "[0 1 2 3] [false false false true]"}, {"0 0 0 1;1 0 0 0;0 1 0 0;0 0 1 0", "[0 0 0 0] [true true true true]"},
	} {
		least, closed, e := walk.Classes(matrix(x.m))
		if got := fmt.Sprint(least, closed); got != x.want || e != api.OK {
			t.Errorf("Classes of %s: %s, %d", x.m, got, e)
		}
	}
	random := rand.New(rand.NewSource(91))
	open, several := 0, 0
	for _, m := range chains(random, 1500) {
		least, closed, e := walk.Classes(m)
		if e != api.OK || len(least) != len(m) || len(closed) != len(m) {
			t.Fatalf("Classes of %s: %v, %v, %d", showRows(m), least, closed, e)
		}
		for i := range m {
			if least[i] != slices.Min(classOf(m, i)) || closed[i] != isClosed(m, i) {
				t.Fatalf("Classes of %s: %v, %v", showRows(m), least, closed)
			}
		}
		if slices.Contains(closed, false) {
			open++
		}
		if slices.Max(least) > 0 {
			several++
		}
	}
	if open < 300 || several-open < 10 {
		t.Error(open, several)
	}
}

// P6.1: Period.
func TestPeriod(t *testing.T) {
	for _, x := range []struct {
		m    string
		i    int
		want int
	}{
		{"1", 0, 1}, {"0 1;1 0", 0, 2}, {"0 1;1 0", 1, 2}, {"0 1;1/2 1/2", 0, 1}, {"0 1 0;0 0 1;1 0 0", 2, 3}, {"0 1 0;0 0 1;1/2 1/2 0", 0, 1}, {"0 1 0;1/2 0 1/2;0 1 0", 0, 2}, {"1/2 1/2 0;0 0 1;0 1 0", 1, 2},
		{"0 1 0 0;0 0 1 0;0 0 0 1;1/2 0 1/2 0", 0, 2}, {"0 1 0 0 0;0 0 1 0 0;1/2 0 0 1/2 0;0 0 0 0 1;1 0 0 0 0", 4, 1},
		// rings of 8; of 8 and 4; of 5 and 3; of 4 and 6; far from the shorter ring
		{"0 1 0 0 0 0 0 0;0 0 1 0 0 0 0 0;0 0 0 1 0 0 0 0;0 0 0 0 1 0 0 0;0 0 0 0 0 1 0 0;0 0 0 0 0 0 1 0;0 0 0 0 0 0 0 1;1 0 0 0 0 0 0 0", 5, 8},
		{"0 1 0 0 0 0 0 0;0 0 1 0 0 0 0 0;0 0 0 1 0 0 0 0;0 0 0 0 1 0 0 0;0 0 0 0 0 1 0 0;0 0 0 0 0 0 1 0;0 0 0 0 0 0 0 1;1/2 0 0 0 1/2 0 0 0", 0, 4},
		{"0 1 0 0 0 0 0 0;0 0 1 0 0 0 0 0;0 0 0 1 0 0 0 0;0 0 0 0 1 0 0 0;0 0 0 0 0 1 0 0;0 0 0 0 0 0 1 0;0 0 0 0 0 0 0 1;1/2 0 0 0 0 1/2 0 0", 0, 1},
		{"0 1 0 0 0 0 0 0;0 0 1 0 0 0 0 0;0 0 0 1 0 0 0 0;0 0 0 0 1 0 0 0;0 0 0 0 0 1 0 0;0 0 0 0 0 0 1 0;0 0 0 0 0 0 0 1;1/2 0 0 0 0 0 1/2 0", 0, 2},
		{"0 1 0 0 0 0 0 0;0 0 1 0 0 0 0 0;0 0 0 1 0 0 0 0;0 0 0 0 1 0 0 0;0 0 0 0 0 1 0 0;0 0 0 0 0 0 1 0;0 0 0 0 0 0 0 1;1/2 0 0 0 0 0 0 1/2", 0, 1},
		{"0 1 0 0 0 0;0 0 1 0 0 0;0 0 0 1 0 0;1/2 0 0 0 1/2 0;0 0 0 0 0 1;1 0 0 0 0 0", 2, 2},
	} {
		if p, e := walk.Period(matrix(x.m), x.i); p != x.want || e != api.OK {
			t.Errorf("Period of %d in %s: %d, %d", x.i, x.m, p, e)
		}
	}
	random := rand.New(rand.NewSource(92))
	found := map[int]int{}
	for _, m := range chains(random, 1200) {
		for i := range m {
			found[checkPeriod(t, m, i)]++
		}
	}
	for want, least := range map[int]int{0: 500, 1: 500, 2: 100, 3: 50, 4: 20} {
		if found[want] < least {
			t.Errorf("period %d: %d", want, found[want])
		}
	}
}

// checkPeriod compares Period with the ways back of at most 40 steps, and returns the period, or 0 for ErrStuck.
func checkPeriod(t *testing.T, m [][]num.Rat, i int) int {
	t.Helper()
	p, e := walk.Period(m, i)
	if !isClosed(m, i) {
		if p != 0 || e != api.ErrStuck {
			t.Fatalf("Period of %d in %s: %d, %d", i, showRows(m), p, e)
		}
		return 0
	}
	want := 40
	for ; want > 1; want-- {
		if dividesWays(m, i, want) {
			break
		}
	}
	if p != want || e != api.OK {
		t.Fatalf("Period of %d in %s: %d, %d, not %d", i, showRows(m), p, e, want)
	}
	return p
}

// dividesWays reports whether d divides the number of steps of all ways from i back, of at most 40 steps.
func dividesWays(m [][]num.Rat, i, d int) bool {
	at := make([]bool, len(m))
	at[i] = true
	for steps := 1; steps <= 40; steps++ {
		next := make([]bool, len(m))
		for j := range m {
			for k := range m {
				next[k] = next[k] || at[j] && m[j][k].Sign() > 0
			}
		}
		at = next
		if at[i] && steps%d != 0 {
			return false
		}
	}
	return true
}
