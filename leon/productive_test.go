package leon_test

import (
	"math/big"
	"math/rand"
	"strings"
	"testing"

	"squeegee/api"
	"squeegee/leon"
	"squeegee/num"
)

// eats decides by the definition whether x is a group that eats itself.
func eats(a [][]num.Rat, x []num.Rat) bool {
	if len(x) != len(a) {
		return false
	}
	some := false
	left := leftBy(exactRows(a), exactList(x))
	for i, r := range x {
		if r.Sign() < 0 || left[i].Sign() > 0 {
			return false
		}
		some = some || r.Sign() > 0
	}
	return some
}

// checkProductive checks that a table has just one of the two witnesses, and reports whether it is productive.
func checkProductive(t *testing.T, a [][]num.Rat) bool {
	t.Helper()
	x, is, e := leon.Productive(a)
	group, eating, failed := leon.Eats(a)
	if e != api.OK || failed != api.OK || is == eating || is != isProductive(a) {
		t.Fatalf("%s: %t, %d and %t, %d", showRows(a), is, e, eating, failed)
	}
	if is {
		if len(x) != len(a) || len(group) > 0 {
			t.Fatalf("%s: the output %s, the group %s", showRows(a), show(x), show(group))
		}
		left := leftBy(exactRows(a), exactList(x))
		for i, r := range x {
			if r.Sign() < 0 || left[i].Cmp(whole(1)) != 0 {
				t.Fatalf("Productive of %s: %s", showRows(a), show(x))
			}
		}
		return true
	}
	if len(x) > 0 || !eats(a, group) || digits(group) > 1000 || !leon.IsEating(a, group) {
		t.Fatalf("%s: the output %s, the group %s", showRows(a), show(x), show(group))
	}
	return false
}

// P7.2: Productive and Eats.
func TestProductive(t *testing.T) {
	for _, x := range []struct{ a, output string }{ // no output: not productive
		{"0", "1"}, {"1/2", "2"}, {"1", ""}, {"2", ""}, {"999998/999999", "999999"}, {"999999/999998", ""}, {"0 2;1/4 0", "6 5/2"}, {"0 2;1/2 0", ""}, {"0 2;499999/999999 0", "2999997 1499998"}, {"0 1/2;1/2 0", "2 2"}, {"0 1;1 0", ""},
		{"0 999999;0 0", "1000000 1"}, {"1 0;0 0", ""}, {"0 0;0 1", ""}, {"0 0;0 3/2", ""}, {"1/2 1/2;1/2 1/2", ""}, {"1/2 1/3;1/2 1/3", "6 6"}, {"0 0 0;0 0 0;0 0 0", "1 1 1"}, {"0 0 1;1 0 0;0 1 0", ""}, {"0 0 1/2;1 0 0;0 1 0", "4 5 6"},
		// corners that are above 0 after one that is not
		{"2 0;0 2", ""}, {"2 0;0 3", ""}, {"2 1;1 2", ""}, {"2 2;2 2", ""}, {"0 1 0;1 0 0;0 0 2", ""}, {"0 2 0;1 0 0;0 0 2", ""}, {"3 0 0;0 3 0;0 0 0", ""}, {"0 0 0;0 1 1;0 0 1/2", ""}, {"1 1;1 0", ""}, {"1 1;0 0", ""}, {"1 0;1 0", ""},
	} {
		a := matrix(x.a)
		output, is, e := leon.Productive(a)
		if show(output) != x.output || is != (x.output != "") || e != api.OK || checkProductive(t, a) != is {
			t.Errorf("Productive of %s: %s, %t, %d", x.a, show(output), is, e)
		}
	}
}

// P7.2: many tables; P7.5: just one witness, and the mirror image is the same.
func TestHawkinsSimon(t *testing.T) {
	random := rand.New(rand.NewSource(4))
	found := map[bool]int{}
	for _, a := range tables(random, 800) {
		is := checkProductive(t, a)
		found[is]++
		if checkProductive(t, mirror(a)) != is {
			t.Fatalf("%s: %t, but not so in the mirror", showRows(a), is)
		}
		above := true
		for _, c := range must[[]num.Rat](t)(leon.Corners(a)) {
			above = above && c.Sign() > 0
		}
		if above != is {
			t.Fatalf("%s: %t, but the corners say %t", showRows(a), is, above)
		}
	}
	if found[true] < 200 || found[false] < 200 {
		t.Error(found)
	}
}

// P7.2: the longest fractions; the last firm uses just what is too much.
func TestLongProductive(t *testing.T) {
	a := primeTable(1, 20)
	if !checkProductive(t, a) {
		t.Error("a table of primes is not productive")
	}
	a[7][7] = ratio(999999, 999998)
	if checkProductive(t, a) {
		t.Error("a table of primes is productive")
	}
	group, _, _ := leon.Eats(a)
	if digits(group) < 300 {
		t.Errorf("%d digits", digits(group))
	}
	if checkProductive(t, primeTable(1, 7)) {
		t.Error("a table of sevenths is productive")
	}
}

// P7.2: IsEating.
func TestIsEating(t *testing.T) {
	long := strings.Repeat("9", 1000)
	for _, x := range []struct {
		a, x string
		want bool
	}{
		{"1", "1", true}, {"1", "1/2", true}, {"1", "0", false}, {"1", "-1", false}, {"2", "3", true}, {"2", "-3", false}, {"1/2", "1", false}, {"0", "1", false}, {"999998/999999", "1", false},
		{"1", "", false}, {"1", "1 1", false}, {"1", "1 0", false}, {"1 0;0 1", "1", false}, {"1 0;0 1", "1 1 1", false},
		{"1 0;0 0", "1 0", true}, {"1 0;0 0", "1 1", false}, {"1 0;0 0", "0 1", false}, {"1 0;0 0", "0 0", false}, {"0 2;1/2 0", "2 1", true}, {"0 2;1/2 0", "2 2", false}, {"0 2;1/2 0", "-2 -1", false}, {"0 2;2 0", "2 1", true}, {"0 2;2 0", "2 4", true}, {"0 2;2 0", "2 5", false}, {"0 2;2 0", "1 0", false},
		{"0 0 0;1 1 0;0 0 0", "0 1 0", true}, {"0 0 0;1 1 0;0 0 0", "1 1 0", false}, {"2 0;1 0", "1 -1", false}, {"2 0;0 2", "1 -1", false},
		{"1", long, true}, {"1", "1/" + long, true}, {"1", long + "9", false}, {"1", "1/1" + long, false}, {"1", "-" + long, false}, {"1 0;0 1", long + " 1/" + long, true}, {"1 0;0 1", "1 1/1" + long, false}, {"1 0;0 1", "1" + long + " 1", false}, {"1", strings.Repeat("9", api.MaxDigits), false},
	} {
		if is := leon.IsEating(matrix(x.a), list(x.x)); is != x.want {
			t.Errorf("IsEating of %s, %.50s: %t", x.a, x.x, is)
		}
	}
}

// P7.2: IsEating of many lists, those of Eats with one fraction changed among them.
func TestSomeEating(t *testing.T) {
	random := rand.New(rand.NewSource(5))
	found := map[bool]int{}
	for _, a := range tables(random, 400) {
		group, _, _ := leon.Eats(a)
		lists := [][]num.Rat{someAmounts(random, len(a)), make([]num.Rat, len(a))}
		for i := range group {
			for _, by := range []num.Rat{ratio(1, 1000000), num.Of(-1), num.Of(1), group[i].Neg()} {
				changed := append([]num.Rat(nil), group...)
				changed[i], _ = group[i].Add(by)
				lists = append(lists, changed)
			}
		}
		for _, x := range lists {
			is := leon.IsEating(a, x)
			if is != eats(a, x) {
				t.Fatalf("IsEating of %s, %s: %t", showRows(a), show(x), is)
			}
			found[is]++
		}
	}
	if found[true] < 300 || found[false] < 300 {
		t.Error(found)
	}
}

// P7.2: fractions of 1000 digits that have nothing in common can be added up.
func TestLongEating(t *testing.T) {
	a := primeTable(1, 7)
	var x, more []num.Rat
	power := new(big.Int).Exp(big.NewInt(10), big.NewInt(999), nil)
	for k := range int64(8) {
		low := new(big.Int).Add(power, big.NewInt(2*k+1))
		top := new(big.Int).Add(power, big.NewInt(2*k+2))
		x = append(x, read(top.String()+"/"+low.String()))
		more = append(more, read("1/"+low.String()))
	}
	more[3] = x[3]
	if !leon.IsEating(a, x) || !eats(a, x) {
		t.Error("what is used is more than what is made")
	}
	if leon.IsEating(a, more) || eats(a, more) {
		t.Error("of one firm's work less is used than made")
	}
}

// determinant goes along the first row.
func determinant(m [][]*big.Rat) *big.Rat {
	if len(m) == 0 {
		return whole(1)
	}
	out := whole(0)
	for j, r := range m[0] {
		if r.Sign() == 0 {
			continue
		}
		var rest [][]*big.Rat
		for _, row := range m[1:] {
			rest = append(rest, append(append([]*big.Rat(nil), row[:j]...), row[j+1:]...))
		}
		part := times(r, determinant(rest))
		if j%2 == 1 {
			part.Neg(part)
		}
		out = plus(out, part)
	}
	return out
}

func checkCorners(t *testing.T, a [][]num.Rat) {
	t.Helper()
	var want []*big.Rat
	for k := range a {
		var m [][]*big.Rat
		for i := range k + 1 {
			var row []*big.Rat
			for j := range k + 1 {
				unit := whole(0)
				if i == j {
					unit = whole(1)
				}
				row = append(row, minus(unit, exact(a[i][j])))
			}
			m = append(m, row)
		}
		want = append(want, determinant(m))
	}
	if corners, e := leon.Corners(a); e != api.OK || !same(corners, want) {
		t.Fatalf("Corners of %s: %s, %d instead of %s", showRows(a), show(corners), e, want)
	}
}

// P7.2: Corners.
func TestCorners(t *testing.T) {
	for _, x := range []struct{ a, want string }{
		{"1/2", "1/2"}, {"0", "1"}, {"1", "0"}, {"3", "-2"}, {"0 2;1/4 0", "1 1/2"}, {"1/4 2;0 1/3", "3/4 1/2"}, {"2 0;0 2", "-1 1"}, {"0 1;1 0", "1 0"}, {"1 0;0 0", "0 0"}, {"0 0 0;0 0 0;0 0 1/5", "1 1 4/5"},
	} {
		if corners, e := leon.Corners(matrix(x.a)); show(corners) != x.want || e != api.OK {
			t.Errorf("Corners of %s: %s, %d", x.a, show(corners), e)
		}
	}
	random := rand.New(rand.NewSource(6))
	for _, a := range tables(random, 300) {
		if len(a) < 7 {
			checkCorners(t, a)
		}
	}
	checkCorners(t, someTable(random, 8, 40, 50, 60))
	checkCorners(t, primeTable(1, 20))
}
