package leon_test

import (
	"math"
	"math/big"
	"math/rand"
	"testing"

	"squeegee/api"
	"squeegee/leon"
	"squeegee/num"
)

// roundsOf adds up one round after the other.
func roundsOf(a [][]num.Rat, demand []num.Rat, n int) []*big.Rat {
	rows, now := exactRows(a), exactList(demand)
	total := now
	for range n {
		now = usedBy(rows, now)
		var next []*big.Rat
		for i := range now {
			next = append(next, plus(total[i], now[i]))
		}
		total = next
	}
	return total
}

func checkRounds(t *testing.T, a [][]num.Rat, demand []num.Rat, n int) []num.Rat {
	t.Helper()
	l, e := leon.Rounds(a, demand, n)
	if e != api.OK || !same(l, roundsOf(a, demand, n)) {
		t.Fatalf("Rounds of %s, %s at %d: %.200s, %d", showRows(a), show(demand), n, show(l), e)
	}
	return l
}

// P7.4: Rounds.
func TestRounds(t *testing.T) {
	for _, x := range []struct {
		a, demand string
		n         int
		want      string
	}{
		{"1/2", "1", 0, "1"}, {"1/2", "1", 1, "3/2"}, {"1/2", "1", 20, "2097151/1048576"}, {"1", "1", 20, "21"}, {"2", "1", 20, "2097151"}, {"0", "5/3", 20, "5/3"}, {"1/2", "0", 7, "0"}, {"0 1/2;1/2 0", "1 1", 2, "7/4 7/4"}, {"0 1/2;1/2 0", "1 1", 0, "1 1"}, {"0 2;1/4 0", "1 0", 1, "1 1/4"}, {"0 2;1/4 0", "0 1", 1, "2 1"}, {"0 2;1/4 0", "0 1/3", 2, "2/3 1/2"},
		{"0 0 0;1 0 0;0 1 0", "1 0 0", 1, "1 1 0"}, {"0 0 0;1 0 0;0 1 0", "1 0 0", 20, "1 1 1"},
	} {
		if l := checkRounds(t, matrix(x.a), list(x.demand), x.n); show(l) != x.want {
			t.Errorf("Rounds of %s, %s at %d: %s", x.a, x.demand, x.n, show(l))
		}
	}
	random := rand.New(rand.NewSource(9))
	for k, a := range tables(random, 300) {
		checkRounds(t, a, someAmounts(random, len(a)), []int{0, 1, 2, 3, 5, 9}[k%6])
	}
	for _, a := range tables(random, 20) {
		checkRounds(t, a, someAmounts(random, len(a)), 20)
	}
}

// P7.4: the most rounds of the longest fractions.
func TestLongRounds(t *testing.T) {
	a, demand := primeTable(1, 20), longDemand()
	checkRounds(t, a, demand, 4)
	long := must[[]num.Rat](t)(leon.Rounds(a, demand, 20))
	before := must[[]num.Rat](t)(leon.Rounds(a, demand, 19))
	if digits(long) < 4000 {
		t.Errorf("%d digits", digits(long))
	}
	want := usedBy(exactRows(a), exactList(before))
	for i, r := range exactList(demand) {
		want[i] = plus(want[i], r)
	}
	if !same(long, want) {
		t.Error("the last round is wrong")
	}
	if _, e := leon.Rounds(primeTable(999999, 1), demand, 20); e != api.OK {
		t.Error(e)
	}
}

// P7.4: the errors of Rounds and of Between, and their order.
func TestRoundsErrors(t *testing.T) {
	for _, n := range []int{-1, 21, math.MinInt, math.MaxInt, 1 << 32, 1<<32 + 3} {
		for _, s := range []string{"1/2 0;0 1/2", "0 2;1/4 0", "1 0;0 1"} {
			refuses(t, "Rounds of "+s, api.ErrArg, calls(matrix(s), list("1 1"), n)["Rounds"])
			refuses(t, "Rounds of "+s, api.ErrShape, calls(matrix(s), list("1"), n)["Rounds"])
		}
	}
	for _, n := range []int{0, 1, 19, 20} {
		if _, e := leon.Rounds(matrix("2"), list("1"), n); e != api.OK {
			t.Errorf("Rounds at %d: %d", n, e)
		}
	}
	for _, n := range []int{-1, 0, 21, math.MinInt, math.MaxInt, 1 << 32, 1<<32 + 3} {
		for _, s := range []string{"1/2", "0 2;1/4 0", "1 1;1 1", "0 0 1;1 0 0;0 1 0"} {
			refuses(t, "Between of "+s, api.ErrArg, calls(matrix(s), nil, n)["Between"])
		}
	}
	for _, n := range []int{-1, 0, 1, 2, 20, 21, math.MinInt} {
		for _, s := range []string{"0", "1/2 0;0 1/2", "0 1/2;0 0", "1/2 1/2;0 1/2", "1/2 0;1/2 1/2", "0 1 0;1 0 0;0 0 1", "0 1 0;1 0 1;0 0 0", "0 0 0;1 0 1;0 1 0", "0 1 0 0;1 0 0 0;0 0 0 1;0 0 1 0"} {
			refuses(t, "Between of "+s, api.ErrNone, calls(matrix(s), nil, n)["Between"])
		}
	}
	for _, n := range []int{1, 2, 19, 20} {
		if _, _, e := leon.Between(matrix("0 2;1/4 0"), n); e != api.OK {
			t.Errorf("Between at %d: %d", n, e)
		}
	}
}

// betweenOf goes one step after the other.
func betweenOf(a [][]num.Rat, steps int) (*big.Rat, *big.Rat) {
	rows := exactRows(a)
	var x []*big.Rat
	for range a {
		x = append(x, whole(1))
	}
	for range steps {
		x = usedBy(rows, x)
	}
	var least, greatest *big.Rat
	for i, u := range usedBy(rows, x) {
		q := over(u, x[i])
		if least == nil || q.Cmp(least) < 0 {
			least = q
		}
		if greatest == nil || q.Cmp(greatest) > 0 {
			greatest = q
		}
	}
	return least, greatest
}

// allUseEach reports whether all firms use each firm.
func allUseEach(a [][]num.Rat) bool {
	for i := range a {
		if usesOf(a, i) != 1<<len(a)-1 {
			return false
		}
	}
	return true
}

// P7.4: Between.
func TestBetween(t *testing.T) {
	for _, x := range []struct {
		a               string
		steps           int
		least, greatest string
	}{
		{"1/2", 1, "1/2", "1/2"}, {"1/999999", 20, "1/999999", "1/999999"}, {"999999", 20, "999999", "999999"}, {"0 2;1/4 0", 1, "1/4", "2"}, {"0 2;1/4 0", 2, "1/4", "2"}, {"0 2;1/4 0", 20, "1/4", "2"}, {"0 1/2;1/2 0", 3, "1/2", "1/2"}, {"1 1;1 0", 1, "3/2", "2"}, {"1 1;1 0", 2, "3/2", "5/3"}, {"1 1;1 0", 20, "17711/10946", "28657/17711"}, {"0 1;1 1", 3, "8/5", "5/3"},
	} {
		least, greatest, e := leon.Between(matrix(x.a), x.steps)
		if least.String() != x.least || greatest.String() != x.greatest || e != api.OK {
			t.Errorf("Between of %s at %d: %s, %s, %d", x.a, x.steps, least, greatest, e)
		}
	}
	random := rand.New(rand.NewSource(10))
	found := map[bool]int{}
	for k, a := range tables(random, 400) {
		steps := []int{1, 2, 3, 7}[k%4]
		least, greatest, e := leon.Between(a, steps)
		found[e == api.OK]++
		if !allUseEach(a) {
			if e != api.ErrNone || !isZero(least) || !isZero(greatest) {
				t.Fatalf("Between of %s at %d: %s, %s, %d", showRows(a), steps, least, greatest, e)
			}
			continue
		}
		low, high := betweenOf(a, steps)
		if e != api.OK || exact(least).Cmp(low) != 0 || exact(greatest).Cmp(high) != 0 {
			t.Fatalf("Between of %s at %d: %s, %s, %d instead of %s, %s", showRows(a), steps, least, greatest, e, low, high)
		}
	}
	if found[true] < 100 || found[false] < 100 {
		t.Error(found)
	}
}

// P7.4: the most steps of the longest fractions.
func TestLongBetween(t *testing.T) {
	a := primeTable(1, 20)
	least, greatest, e := leon.Between(a, 20)
	if e != api.OK || digits([]num.Rat{least, greatest}) < 4000 {
		t.Errorf("%d digits, %d", digits([]num.Rat{least, greatest}), e)
	}
	low, high := betweenOf(a, 20)
	if exact(least).Cmp(low) != 0 || exact(greatest).Cmp(high) != 0 {
		t.Error("20 steps of primes are wrong")
	}
	if _, _, e := leon.Between(primeTable(999999, 1), 20); e != api.OK {
		t.Error(e)
	}
}

// P7.6: rounds rise to the output: each is at most the next one, and what is missing becomes smaller than anything.
func TestRoundsRise(t *testing.T) {
	random := rand.New(rand.NewSource(11))
	found := 0
	for _, a := range tables(random, 300) {
		demand := someAmounts(random, len(a))
		output, e := leon.Outputs(a, demand)
		if e != api.OK {
			continue
		}
		found++
		before := make([]num.Rat, len(a))
		missing := make([]*big.Rat, len(a))
		for n := range 8 {
			now := must[[]num.Rat](t)(leon.Rounds(a, demand, n))
			for i, r := range now {
				if r.Cmp(before[i]) < 0 || r.Cmp(output[i]) > 0 {
					t.Fatalf("%s, %s: %s, but then %s, and the output %s", showRows(a), show(demand), show(before), show(now), show(output))
				}
				// what is missing is what the making of what was missing used
				rest := minus(exact(output[i]), exact(r))
				if n > 0 && product(exactList(a[i]), missing).Cmp(rest) != 0 {
					t.Fatalf("%s, %s at %d: %s is missing", showRows(a), show(demand), n, rest)
				}
				before[i] = r
			}
			for i, r := range now {
				missing[i] = minus(exact(output[i]), exact(r))
			}
		}
	}
	if found < 50 {
		t.Error(found)
	}
}

// P7.7: quotients come closer with more steps, and tell whether the table is productive.
func TestCollatzWielandt(t *testing.T) {
	random := rand.New(rand.NewSource(12))
	found := map[string]int{}
	for _, a := range tables(random, 700) {
		if !allUseEach(a) {
			continue
		}
		_, productive, _ := leon.Productive(a)
		var low, high num.Rat
		for steps := 1; steps <= 6; steps++ {
			least, greatest, e := leon.Between(a, steps)
			if e != api.OK || least.Cmp(greatest) > 0 || steps > 1 && (least.Cmp(low) < 0 || greatest.Cmp(high) > 0) {
				t.Fatalf("Between of %s at %d: %s, %s, %d after %s, %s", showRows(a), steps, least, greatest, e, low, high)
			}
			low, high = least, greatest
			switch {
			case high.Cmp(num.Of(1)) < 0:
				found["productive"]++
				if !productive {
					t.Fatalf("%s is not productive, but %s", showRows(a), high)
				}
			case low.Cmp(num.Of(1)) >= 0:
				found["not"]++
				if productive {
					t.Fatalf("%s is productive, but %s", showRows(a), low)
				}
			}
		}
	}
	if found["productive"] < 100 || found["not"] < 100 {
		t.Error(found)
	}
}
