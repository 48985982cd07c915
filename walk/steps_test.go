package walk_test

import (
	"fmt"
	"math"
	"math/big"
	"math/rand"
	"strings"
	"testing"

	"squeegee/api"
	"squeegee/num"
	"squeegee/walk"
)

// checkAfter compares After with one step after the other.
func checkAfter(t *testing.T, m [][]num.Rat, from []num.Rat, steps int) {
	t.Helper()
	rows, want := exactRows(m), exactList(from)
	for range steps {
		var next []*big.Rat
		for j := range m {
			next = append(next, product(want, column(rows, j)))
		}
		want = next
	}
	l, e := walk.After(m, from, steps)
	if e != api.OK || len(l) != len(want) {
		t.Fatalf("After %d steps in %s: %d fractions, %d", steps, showRows(m), len(l), e)
	}
	for j := range want {
		if want[j].Cmp(exact(l[j])) != 0 {
			t.Fatalf("After %d steps in %s from %s: %.200s", steps, showRows(m), show(from), show(l))
		}
	}
}

// P6.2: After.
func TestAfter(t *testing.T) {
	for _, x := range []struct {
		m, from string
		steps   int
		want    string
	}{
		{"1", "1", 0, "1"}, {"1", "1", 50, "1"}, {"0 1;1 0", "1/3 2/3", 0, "1/3 2/3"}, {"0 1;1 0", "1/3 2/3", 1, "2/3 1/3"}, {"0 1;1 0", "1/3 2/3", 50, "1/3 2/3"}, {"0 1;1/2 1/2", "1 0", 1, "0 1"}, {"0 1;1/2 1/2", "1 0", 2, "1/2 1/2"}, {"0 1;1/2 1/2", "1 0", 3, "1/4 3/4"},
		{"0 1;1/2 1/2", "1/3 2/3", 50, "1/3 2/3"}, {"1/2 1/2;0 1", "1 0", 50, "1/1125899906842624 1125899906842623/1125899906842624"}, {"0 1 0;0 0 1;1 0 0", "1/2 1/3 1/6", 1, "1/6 1/2 1/3"}, {"1/2 1/2 0;0 1/2 1/2;0 0 1", "999998/999999 1/999999 0", 0, "999998/999999 1/999999 0"},
	} {
		l, e := walk.After(matrix(x.m), list(x.from), x.steps)
		if show(l) != x.want || e != api.OK {
			t.Errorf("After %d steps in %s from %s: %s, %d", x.steps, x.m, x.from, show(l), e)
		}
	}
	random := rand.New(rand.NewSource(93))
	for k, m := range chains(random, 300) {
		from := someChain(random, len(m), 70, 1, int64(1+random.Intn(999999)))[0]
		checkAfter(t, m, from, []int{0, 1, 2, 3, 7, 12}[k%6])
	}
	for _, m := range chains(random, 25) {
		checkAfter(t, m, m[0], 50)
	}
}

// P6.2: the most steps, with numbers as long as they can become.
func TestLongAfter(t *testing.T) {
	m := primeChain()
	checkAfter(t, m, m[3], 6)
	long, e := walk.After(m, m[3], 50)
	if e != api.OK {
		t.Fatal(e)
	}
	all := whole(0)
	digits := 0
	for _, r := range exactList(long) {
		all = plus(all, r)
		digits = max(digits, len(r.Denom().String()))
	}
	// two columns of a pair add up to 1/4 in each row
	if !isOne(all) || digits < 5000 || plus(exact(long[2]), exact(long[3])).RatString() != "1/4" {
		t.Errorf("%d digits, %.100s", digits, all)
	}
	before, _ := walk.After(m, m[3], 49)
	rows := exactRows(m)
	if product(exactList(before), column(rows, 5)).Cmp(exact(long[5])) != 0 {
		t.Error("the last step is wrong")
	}
}

// P6.2: the errors of After, and their order.
func TestAfterErrors(t *testing.T) {
	nines := strings.Repeat("9", api.MaxDigits)
	for _, x := range []struct {
		m, from string
		steps   int
		want    api.Errno
	}{
		{"1", "", 0, api.ErrShape}, {"1", "1 0", 0, api.ErrShape}, {"1", "", -1, api.ErrShape}, {"0 1;1 0", "1", 51, api.ErrShape}, {"0 1;1 0", "1 -1 1", 0, api.ErrShape}, {"0 1;1 0", "1/2", 0, api.ErrShape}, {"0 1;1 0", "1/2 1/4 1/4", 1, api.ErrShape},
		{"1", "0", 0, api.ErrArg}, {"1", "2", 0, api.ErrArg}, {"1", "-1", 0, api.ErrArg}, {"0 1;1 0", "-1 2", 1, api.ErrArg}, {"0 1;1 0", "2 -1", 1, api.ErrArg}, {"0 1;1 0", "1/2 1/3", 1, api.ErrArg}, {"0 1;1 0", "0 0", 1, api.ErrArg}, {"0 1;1 0", "1 1", 1, api.ErrArg}, {"0 1;1 0", "1/2 2/3", 0, api.ErrArg},
		{"0 1;1 0", "1/1000000 999999/1000000", 1, api.ErrArg}, {"0 1;1 0", "1000002/1000003 1/1000003", 0, api.ErrArg}, {"1", nines, 0, api.ErrArg}, {"1", "1/" + nines, 0, api.ErrArg}, {"0 1;1 0", nines + " -" + nines, 0, api.ErrArg}, {"0 1;1 0", nines + " " + nines, 0, api.ErrArg},
		{"1", "1", -1, api.ErrArg}, {"1", "1", 51, api.ErrArg}, {"1", "1", math.MinInt, api.ErrArg}, {"1", "1", math.MaxInt, api.ErrArg}, {"1", "1", 1 << 32, api.ErrArg}, {"0 1;1 0", "1/2 1/2", 51, api.ErrArg},
		{"1/2 1/3;1 0", "", 0, api.ErrChain}, {"1/2 1/3;1 0", "1 1", -1, api.ErrChain},
	} {
		name := fmt.Sprintf("After %d steps in %s from %.50s", x.steps, x.m, x.from)
		refuses(t, name, x.want, calls(matrix(x.m), list(x.from), 0, 1, x.steps)["After"])
	}
	// numbers of which not even the sum can be had
	longs := []num.Rat{read("1/" + nines), read("1/" + nines[1:] + "8")}
	refuses(t, "After from long ones", api.ErrArg, calls(unit(2), longs, 0, 1, 0)["After"])
}

// isIn reports whether an element is in a set.
func isIn(set, i int) bool {
	return set>>i&1 == 1
}

// leadTo tells for each element whether it leads to a set.
func leadTo(m [][]num.Rat, set int) []bool {
	leads := leadsOf(m)
	out := make([]bool, len(m))
	for i := range m {
		for j := range m {
			out[i] = out[i] || leads[i][j] && isIn(set, j)
		}
	}
	return out
}

// checkReach checks the chances to reach a set: those outside of it that lead to it have what a step makes of the chances. There is just one such list.
func checkReach(t *testing.T, m [][]num.Rat, set int) []num.Rat {
	t.Helper()
	l, e := walk.Reach(m, set)
	if e != api.OK || len(l) != len(m) {
		t.Fatalf("Reach of %b in %s: %s, %d", set, showRows(m), show(l), e)
	}
	rows, chances, lead := exactRows(m), exactList(l), leadTo(m, set)
	for i, chance := range chances {
		want := whole(0)
		if isIn(set, i) {
			want = whole(1)
		} else if lead[i] {
			want = product(rows[i], chances)
		}
		if chance.Cmp(want) != 0 {
			t.Fatalf("Reach of %b in %s: %s", set, showRows(m), show(l))
		}
	}
	return l
}

// checkTime checks the expected times to a set in the same way, and reports whether there are any.
func checkTime(t *testing.T, m [][]num.Rat, set int) bool {
	t.Helper()
	l, e := walk.Time(m, set)
	for _, r := range checkReach(t, m, set) {
		if r.String() != "1" {
			if e != api.ErrStuck || len(l) > 0 {
				t.Fatalf("Time to %b in %s: %s, %d", set, showRows(m), show(l), e)
			}
			return false
		}
	}
	if e != api.OK || len(l) != len(m) {
		t.Fatalf("Time to %b in %s: %s, %d", set, showRows(m), show(l), e)
	}
	rows, expected := exactRows(m), exactList(l)
	for i, x := range expected {
		want := whole(0)
		if !isIn(set, i) {
			want = plus(whole(1), product(rows[i], expected))
		}
		if x.Cmp(want) != 0 {
			t.Fatalf("Time to %b in %s: %s", set, showRows(m), show(l))
		}
	}
	return true
}

// P6.3: Reach and Time.
func TestReachAndTime(t *testing.T) {
	for _, x := range []struct {
		m           string
		set         int
		reach, time string // no time: ErrStuck
	}{
		{"1", 1, "1", "0"}, {"1 0;0 1", 1, "1 0", ""}, {"1 0;0 1", 2, "0 1", ""}, {"1 0;0 1", 3, "1 1", "0 0"}, {"0 1;1 0", 1, "1 1", "0 1"}, {"0 1;1/2 1/2", 1, "1 1", "0 2"}, {"0 1;1/2 1/2", 2, "1 1", "1 0"}, {"1/2 1/2;0 1", 1, "1 0", ""}, {"1/2 1/2;0 1", 2, "1 1", "2 0"},
		{"1 0 0;1/2 0 1/2;0 0 1", 1, "1 1/2 0", ""}, {"1 0 0;1/2 0 1/2;0 0 1", 5, "1 1 1", "0 1 0"}, {"1 0 0;1/2 0 1/2;0 0 1", 2, "0 1 0", ""}, {"1 0 0;1/3 1/3 1/3;0 0 1", 4, "0 1/2 1", ""}, {"1 0 0;1/3 1/3 1/3;0 0 1", 5, "1 1 1", "0 3/2 0"},
		{"1 0 0 0;1/2 0 1/2 0;0 1/2 0 1/2;0 0 0 1", 8, "0 1/3 2/3 1", ""}, {"1 0 0 0;1/2 0 1/2 0;0 1/2 0 1/2;0 0 0 1", 9, "1 1 1 1", "0 2 2 0"}, {"0 1 0;0 0 1;1 0 0", 4, "1 1 1", "2 1 0"}, {"999998/999999 1/999999;0 1", 2, "1 1", "999999 0"},
		// the set leads away, to what does not lead back; what is in the set is there all the same
		{"0 1 0;0 1 0;1 0 0", 1, "1 0 1", ""}, {"1/2 0 1/2 0;0 1 0 0;1/3 1/3 0 1/3;0 0 0 1", 2, "1/2 1 1/2 0", ""},
	} {
		m := matrix(x.m)
		if l := checkReach(t, m, x.set); show(l) != x.reach {
			t.Errorf("Reach of %b in %s: %s", x.set, x.m, show(l))
		}
		l, e := walk.Time(m, x.set)
		if show(l) != x.time || (e == api.OK) != (x.time != "") || checkTime(t, m, x.set) != (e == api.OK) {
			t.Errorf("Time to %b in %s: %s, %d", x.set, x.m, show(l), e)
		}
	}
}

// P6.3: all sets of many chains.
func TestSomeReach(t *testing.T) {
	random := rand.New(rand.NewSource(94))
	found := map[bool]int{}
	for _, m := range chains(random, 150) {
		for range 12 {
			found[checkTime(t, m, 1+random.Intn(1<<len(m)-1))]++
		}
		checkTime(t, m, 1<<len(m)-1)
	}
	if found[true] < 200 || found[false] < 100 {
		t.Error(found)
	}
}

// P6.3: the chances to go to a set add up to fractions of more than 20 digits.
func TestLongSums(t *testing.T) {
	m := primeChain()
	for _, set := range []int{1, 85, 7, 128, 254, 255} {
		if !checkTime(t, m, set) {
			t.Errorf("Time to %b of primes", set)
		}
	}
	ends := append(m[:1:1], unit(8)[1:]...)
	for _, set := range []int{2, 84, 170} {
		if checkTime(t, ends, set) {
			t.Errorf("Time to %b from primes", set)
		}
	}
	if !checkTime(t, ends, 254) {
		t.Error("Time to all ends from primes")
	}
}

// P6.3: the chances and the times are what they come close to after many steps.
func TestLongWalks(t *testing.T) {
	random := rand.New(rand.NewSource(95))
	for range 40 {
		m := someChain(random, 2+random.Intn(5), 50, 1, 20)
		set := 1 + random.Intn(1<<len(m)-1)
		chances, e := walk.Reach(m, set)
		expected, stuck := walk.Time(m, set)
		var rows [][]float64
		for i, row := range exactRows(m) {
			rows = append(rows, nil)
			for _, r := range row {
				chance, _ := r.Float64()
				rows[i] = append(rows[i], chance)
			}
		}
		near, late := make([]float64, len(m)), make([]float64, len(m))
		for range 20000 {
			nextNear, nextLate := make([]float64, len(m)), make([]float64, len(m))
			for i := range m {
				if isIn(set, i) {
					nextNear[i] = 1
					continue
				}
				nextLate[i] = 1
				for j, chance := range rows[i] {
					nextNear[i] += chance * near[j]
					nextLate[i] += chance * late[j]
				}
			}
			near, late = nextNear, nextLate
		}
		for i := range m {
			want, _ := exact(chances[i]).Float64()
			if e != api.OK || math.Abs(want-near[i]) > 1e-6 {
				t.Fatalf("Reach of %b in %s: %s, but %v", set, showRows(m), show(chances), near)
			}
			if stuck == api.OK {
				if want, _ = exact(expected[i]).Float64(); math.Abs(want-late[i]) > 1e-4*want {
					t.Fatalf("Time to %b in %s: %s, but %v", set, showRows(m), show(expected), late)
				}
			}
		}
	}
}
