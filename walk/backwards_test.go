package walk_test

import (
	"fmt"
	"math/big"
	"math/rand"
	"testing"

	"squeegee/api"
	"squeegee/num"
	"squeegee/walk"
)

// checkBack compares Back with its definition.
func checkBack(t *testing.T, m [][]num.Rat) [][]num.Rat {
	t.Helper()
	back, e := walk.Back(m)
	if !isOneClass(m) {
		if e != api.ErrStuck || len(back) > 0 {
			t.Fatalf("Back of %s: %s, %d", showRows(m), showRows(back), e)
		}
		return nil
	}
	shares, rows := exactList(must[[]num.Rat](t)(walk.Shares(m, 0))), exactRows(m)
	if e != api.OK || len(back) != len(m) {
		t.Fatalf("Back of %s: %s, %d", showRows(m), showRows(back), e)
	}
	for i, row := range exactRows(back) {
		if len(row) != len(m) {
			t.Fatalf("Back of %s: %s", showRows(m), showRows(back))
		}
		for j, r := range row {
			if r.Cmp(over(times(shares[j], rows[j][i]), shares[i])) != 0 {
				t.Fatalf("Back of %s: %s", showRows(m), showRows(back))
			}
		}
	}
	return back
}

// P6.5: Back.
func TestBack(t *testing.T) {
	for m, want := range map[string]string{
		"1": "1", "0 1;1 0": "0 1;1 0", "0 1;1/2 1/2": "0 1;1/2 1/2", "0 1 0;0 0 1;1 0 0": "0 0 1;1 0 0;0 1 0", "0 2/3 1/3;1/3 0 2/3;2/3 1/3 0": "0 1/3 2/3;2/3 0 1/3;1/3 2/3 0",
		"0 1 0;0 0 1;1/2 1/2 0": "0 0 1;1/2 0 1/2;0 1 0", "1 0;0 1": "", "1/2 1/2;0 1": "", "1 0;1/2 1/2": "", "0 1 0;1 0 0;1/3 1/3 1/3": "",
	} {
		if back := checkBack(t, matrix(m)); showRows(back) != want {
			t.Errorf("Back of %s: %s", m, showRows(back))
		}
	}
	random := rand.New(rand.NewSource(99))
	found := map[bool]int{}
	for _, m := range chains(random, 500) {
		found[checkBack(t, m) != nil]++
	}
	if found[true] < 100 || found[false] < 100 {
		t.Error(found)
	}
	// more than 6 digits, and many more
	if back := checkBack(t, primeChain()); walk.Check(back) != api.ErrChain {
		t.Errorf("Back of primes: %s", showRows(back))
	}
}

// around is the product of the chances around a ring, in both directions.
func around(rows [][]*big.Rat, ring []int) (*big.Rat, *big.Rat) {
	there, back := whole(1), whole(1)
	for k, i := range ring {
		j := ring[(k+1)%len(ring)]
		there, back = times(there, rows[i][j]), times(back, rows[j][i])
	}
	return there, back
}

// isUneven reports whether a list is a ring of at least three elements that has another product backwards.
func isUneven(rows [][]*big.Rat, ring []int) bool {
	seen := map[int]bool{}
	for _, i := range ring {
		if i < 0 || i >= len(rows) || seen[i] {
			return false
		}
		seen[i] = true
	}
	there, back := around(rows, ring)
	return len(ring) >= 3 && there.Cmp(back) != 0
}

// hasUneven reports whether some ring has another product backwards: it goes through all lists of different elements.
func hasUneven(rows [][]*big.Rat, ring []int) bool {
	if isUneven(rows, ring) {
		return true
	}
	for i := range rows {
		used := false
		for _, j := range ring {
			used = used || i == j
		}
		if !used && hasUneven(rows, append(ring, i)) {
			return true
		}
	}
	return false
}

// checkBalanced checks what Balanced says, and reports it: "stuck", "balanced", or how long its ring is.
func checkBalanced(t *testing.T, m [][]num.Rat) string {
	t.Helper()
	ring, is, e := walk.Balanced(m)
	back, stuck := walk.Back(m)
	if e != stuck || e != api.OK && (is || len(ring) > 0) {
		t.Fatalf("Balanced of %s: %v, %v, %d", showRows(m), ring, is, e)
	}
	if e != api.OK {
		return "stuck"
	}
	if is != (showRows(back) == showRows(m)) || is != (ring == nil) || !is && !isUneven(exactRows(m), ring) {
		t.Fatalf("Balanced of %s: %v, %v", showRows(m), ring, is)
	}
	if is {
		return "balanced"
	}
	return fmt.Sprint(len(ring))
}

// P6.5: Balanced.
func TestBalanced(t *testing.T) {
	for m, want := range map[string]string{
		"1": "balanced", "0 1;1 0": "balanced", "0 1;1/2 1/2": "balanced", "999998/999999 1/999999;1 0": "balanced", "1 0;0 1": "stuck", "1/2 1/2;0 1": "stuck", "1 0;1/2 1/2": "stuck",
		"0 2/3 1/3;1/3 0 2/3;2/3 1/3 0": "3", "0 1 0;0 0 1;1 0 0": "3", "0 1/2 1/2;1/2 0 1/2;1/2 1/2 0": "balanced", "0 1 0;1/2 0 1/2;0 1 0": "balanced", "0 1/3 2/3;1/2 0 1/2;2/3 1/3 0": "balanced", "1/2 1/4 1/4;1/3 1/3 1/3;1/5 2/5 2/5": "3",
		"0 1/2 0 1/2;1/2 0 1/2 0;0 1/2 0 1/2;1/2 0 1/2 0": "balanced", "0 2/3 0 1/3;1/3 0 2/3 0;0 1/3 0 2/3;2/3 0 1/3 0": "4", "0 1 0 0;0 0 1 0;0 0 0 1;1 0 0 0": "4",
		// in a tree nothing is lost, whatever the chances
		"0 1/3 1/3 1/3;1 0 0 0;1/7 0 6/7 0;1/999999 0 0 999998/999999": "balanced",
		// a ring apart from the others, and one that no ring of three shows
		"0 1 0 0 0;1/2 0 1/2 0 0;0 1/3 0 1/3 1/3;0 0 1/4 0 3/4;0 0 3/4 1/4 0": "3", "0 1/2 0 0 1/2;1/2 0 1/2 0 0;0 1/2 0 1/2 0;0 0 1/2 0 1/2;1/3 0 0 2/3 0": "5",
		"0 1/2 0 0 0 0 0 1/2;1/2 0 1/2 0 0 0 0 0;0 1/2 0 1/2 0 0 0 0;0 0 1/2 0 1/2 0 0 0;0 0 0 1/2 0 1/2 0 0;0 0 0 0 1/2 0 1/2 0;0 0 0 0 0 1/2 0 1/2;1/2 0 0 0 0 0 1/2 0": "balanced",
		"0 1/2 0 0 0 0 0 1/2;1/2 0 1/2 0 0 0 0 0;0 1/2 0 1/2 0 0 0 0;0 0 1/2 0 1/2 0 0 0;0 0 0 1/2 0 1/2 0 0;0 0 0 0 1/2 0 1/2 0;0 0 0 0 0 1/2 0 1/2;1/3 0 0 0 0 0 2/3 0": "8",
	} {
		if got := checkBalanced(t, matrix(m)); got != want {
			t.Errorf("Balanced of %s: %s instead of %s", m, got, want)
		}
	}
	random := rand.New(rand.NewSource(100))
	found := map[string]int{}
	for _, m := range chains(random, 1500) {
		found[checkBalanced(t, m)]++
	}
	for range 300 {
		found[checkBalanced(t, evenChain(random, 1+random.Intn(8), random.Intn(101)))]++
	}
	found[checkBalanced(t, primeChain())]++
	for want, least := range map[string]int{"stuck": 300, "balanced": 400, "3": 100, "4": 30, "5": 5} {
		if found[want] < least {
			t.Errorf("%s: %d", want, found[want])
		}
	}
}

// P6.5: chains that are balanced but for what goes around one ring.
func TestHiddenRings(t *testing.T) {
	random := rand.New(rand.NewSource(101))
	for range 300 {
		n := 3 + random.Intn(6)
		m := exactRows(evenChain(random, n, 100))
		ring := random.Perm(n)[:3+random.Intn(n-2)]
		for k, i := range ring {
			j := ring[(k+1)%len(ring)]
			part := times(m[i][j], new(big.Rat).SetFrac64(1, 2+random.Int63n(3)))
			m[i][j], m[i][i] = minus(m[i][j], part), plus(m[i][i], part)
		}
		var turned [][]num.Rat
		for _, row := range m {
			var out []num.Rat
			for _, r := range row {
				out = append(out, read(r.RatString()))
			}
			turned = append(turned, out)
		}
		if got := checkBalanced(t, turned); got == "balanced" || got == "stuck" {
			t.Fatalf("Balanced of %s: %s", showRows(turned), got)
		}
	}
}
