package walk_test

import (
	"fmt"
	"math/big"
	"math/rand"
	"testing"

	"squeegee/api"
	"squeegee/num"
	"squeegee/walk"
)

// checkShares checks the shares for the class of i by the definition, and reports whether there are any. There is just one such list.
func checkShares(t *testing.T, m [][]num.Rat, i int) bool {
	t.Helper()
	l, e := walk.Shares(m, i)
	if !isClosed(m, i) {
		if e != api.ErrStuck || len(l) > 0 {
			t.Fatalf("Shares for %d in %s: %s, %d", i, showRows(m), show(l), e)
		}
		return false
	}
	if e != api.OK || len(l) != len(m) {
		t.Fatalf("Shares for %d in %s: %s, %d", i, showRows(m), show(l), e)
	}
	rows, shares, all := exactRows(m), exactList(l), whole(0)
	inClass := make([]bool, len(m))
	for _, j := range classOf(m, i) {
		inClass[j] = true
	}
	for j, share := range shares {
		all = plus(all, share)
		if share.Cmp(product(shares, column(rows, j))) != 0 || share.Sign() < 0 || (share.Sign() > 0) != inClass[j] {
			t.Fatalf("Shares for %d in %s: %s", i, showRows(m), show(l))
		}
	}
	if !isOne(all) {
		t.Fatalf("Shares for %d in %s: %s", i, showRows(m), show(l))
	}
	return true
}

// P6.4: Shares.
func TestShares(t *testing.T) {
	for _, x := range []struct {
		m    string
		i    int
		want string // none: ErrStuck
	}{
		{"1", 0, "1"}, {"0 1;1/2 1/2", 0, "1/3 2/3"}, {"0 1;1/2 1/2", 1, "1/3 2/3"}, {"0 1;1 0", 0, "1/2 1/2"}, {"1 0;0 1", 0, "1 0"}, {"1 0;0 1", 1, "0 1"}, {"1/2 1/2;0 1", 0, ""}, {"1/2 1/2;0 1", 1, "0 1"},
		{"0 2/3 1/3;1/3 0 2/3;2/3 1/3 0", 1, "1/3 1/3 1/3"}, {"0 1 0;1/2 0 1/2;0 1 0", 2, "1/4 1/2 1/4"}, {"1/3 1/3 1/3;0 0 1;0 1/2 1/2", 0, ""}, {"1/3 1/3 1/3;0 0 1;0 1/2 1/2", 2, "0 1/3 2/3"}, {"0 0 1;0 1 0;1/4 0 3/4", 0, "1/5 0 4/5"},
	} {
		l, e := walk.Shares(matrix(x.m), x.i)
		if show(l) != x.want || (e == api.OK) != (x.want != "") || checkShares(t, matrix(x.m), x.i) != (e == api.OK) {
			t.Errorf("Shares for %d in %s: %s, %d", x.i, x.m, show(l), e)
		}
	}
	random := rand.New(rand.NewSource(96))
	found := map[bool]int{}
	for _, m := range chains(random, 300) {
		for i := range m {
			found[checkShares(t, m, i)]++
		}
	}
	if found[true] < 300 || found[false] < 100 {
		t.Error(found)
	}
	for i := range 8 {
		checkShares(t, primeChain(), i)
	}
}

// checkReturn compares Return with one step and the expected time from there on, which is that of the chain without the elements to which i does not lead. It reports whether there is one.
func checkReturn(t *testing.T, m [][]num.Rat, i int) bool {
	t.Helper()
	r, e := walk.Return(m, i)
	if !isClosed(m, i) {
		if e != api.ErrStuck || !isZero(r) {
			t.Fatalf("Return of %d in %s: %s, %d", i, showRows(m), r, e)
		}
		return false
	}
	want := whole(1)
	alone := append([][]num.Rat(nil), m...)
	inClass := map[int]bool{}
	for _, j := range classOf(m, i) {
		inClass[j] = true
	}
	for j := range alone {
		if !inClass[j] {
			alone[j] = unit(len(m))[i]
		}
	}
	expected := must[[]num.Rat](t)(walk.Time(alone, 1<<i))
	want = plus(want, product(exactRows(m)[i], exactList(expected)))
	if e != api.OK || want.Cmp(exact(r)) != 0 {
		t.Fatalf("Return of %d in %s: %s, %d, not %s", i, showRows(m), r, e, want)
	}
	return true
}

// P6.4: Return.
func TestReturn(t *testing.T) {
	for _, x := range []struct {
		m    string
		i    int
		want string
	}{
		{"1", 0, "1"}, {"0 1;1/2 1/2", 0, "3"}, {"0 1;1/2 1/2", 1, "3/2"}, {"0 1;1 0", 0, "2"}, {"1 0;0 1", 1, "1"}, {"1/2 1/2;0 1", 1, "1"}, {"0 1 0;0 0 1;1 0 0", 2, "3"}, {"999998/999999 1/999999;1 0", 1, "1000000"},
	} {
		if r, e := walk.Return(matrix(x.m), x.i); r.String() != x.want || e != api.OK {
			t.Errorf("Return of %d in %s: %s, %d", x.i, x.m, r, e)
		}
	}
	refuses(t, "Return of 0 in 1/2 1/2;0 1", api.ErrStuck, calls(matrix("1/2 1/2;0 1"), nil, 0, 1, 0)["Return"])
	random := rand.New(rand.NewSource(97))
	found := map[bool]int{}
	for _, m := range chains(random, 300) {
		for i := range m {
			found[checkReturn(t, m, i)]++
		}
	}
	if found[true] < 300 || found[false] < 100 {
		t.Error(found)
	}
}

// treesTo is the sum of the weights of all trees to j, one after the other, and their number.
func treesTo(rows [][]*big.Rat, j int) (*big.Rat, int) {
	all, number := whole(0), 0
	goes := make([]int, len(rows))
	var choose func(i int, weight *big.Rat)
	choose = func(i int, weight *big.Rat) {
		if i == len(rows) {
			if leadsAll(goes, j) {
				all = plus(all, weight)
				number++
			}
			return
		}
		if i == j {
			choose(i+1, weight)
			return
		}
		for k, chance := range rows[i] {
			if k != i && chance.Sign() > 0 {
				goes[i] = k
				choose(i+1, times(weight, chance))
			}
		}
	}
	choose(0, whole(1))
	return all, number
}

// leadsAll reports whether following what each element goes to leads from all to j.
func leadsAll(goes []int, j int) bool {
	for i := range goes {
		for range goes {
			if i != j {
				i = goes[i]
			}
		}
		if i != j {
			return false
		}
	}
	return true
}

// P6.4: Trees.
func TestTrees(t *testing.T) {
	for _, x := range []struct {
		m    string
		j    int
		want string
	}{
		{"1", 0, "1"}, {"0 1;1/2 1/2", 0, "1/2"}, {"0 1;1/2 1/2", 1, "1"}, {"0 1;1 0", 0, "1"}, {"0 1 0;0 0 1;1 0 0", 1, "1"}, {"0 2/3 1/3;1/3 0 2/3;2/3 1/3 0", 0, "7/9"}, {"0 1 0;1/2 0 1/2;0 1 0", 0, "1/2"}, {"0 1 0;1/2 0 1/2;0 1 0", 1, "1"}, {"1/3 1/3 1/3;1/3 1/3 1/3;1/3 1/3 1/3", 2, "1/3"},
	} {
		if r, e := walk.Trees(matrix(x.m), x.j); r.String() != x.want || e != api.OK {
			t.Errorf("Trees to %d in %s: %s, %d", x.j, x.m, r, e)
		}
	}
	for _, s := range []string{"1 0;0 1", "1/2 1/2;0 1", "0 1 0;1 0 0;0 0 1", "0 1 0;1 0 0;1/2 0 1/2"} {
		for j := range matrix(s) {
			refuses(t, fmt.Sprintf("Trees to %d in %s", j, s), api.ErrStuck, calls(matrix(s), nil, j, 1, 0)["Trees"])
		}
	}
	random := rand.New(rand.NewSource(98))
	most := 0
	for _, m := range chains(random, 400) {
		j := random.Intn(len(m))
		if !isOneClass(m) {
			refuses(t, fmt.Sprintf("Trees to %d in %s", j, showRows(m)), api.ErrStuck, calls(m, nil, j, 1, 0)["Trees"])
			continue
		}
		if len(m) > 6 && random.Intn(30) > 0 {
			continue
		}
		want, number := treesTo(exactRows(m), j)
		most = max(most, number)
		if r, e := walk.Trees(m, j); e != api.OK || exact(r).Cmp(want) != 0 {
			t.Fatalf("Trees to %d in %s: %s, %d, not %s", j, showRows(m), r, e, want)
		}
	}
	if most < 1000 {
		t.Error(most)
	}
}
