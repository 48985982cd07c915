package leon_test

import (
	"math/rand"
	"testing"

	"squeegee/api"
	"squeegee/leon"
	"squeegee/num"
)

// checkOutputs checks what Outputs, Prices and Multipliers return by what their results leave and gain.
func checkOutputs(t *testing.T, a [][]num.Rat, demand []num.Rat) {
	t.Helper()
	output, failed := leon.Outputs(a, demand)
	prices, unpaid := leon.Prices(a, demand)
	multipliers, e := leon.Multipliers(a)
	if !isProductive(a) {
		if failed != api.ErrNone || unpaid != api.ErrNone || e != api.ErrNone || len(output)+len(prices)+len(multipliers) > 0 {
			t.Fatalf("%s: %s, %d; %s, %d; %s, %d", showRows(a), show(output), failed, show(prices), unpaid, showRows(multipliers), e)
		}
		return
	}
	if failed != api.OK || len(output) != len(a) || !same(demand, leftBy(exactRows(a), exactList(output))) {
		t.Fatalf("Outputs of %s, %s: %s, %d", showRows(a), show(demand), show(output), failed)
	}
	if unpaid != api.OK || len(prices) != len(a) || !same(demand, leftBy(exactRows(mirror(a)), exactList(prices))) {
		t.Fatalf("Prices of %s, %s: %s, %d", showRows(a), show(demand), show(prices), unpaid)
	}
	if e != api.OK || len(multipliers) != len(a) {
		t.Fatalf("Multipliers of %s: %s, %d", showRows(a), showRows(multipliers), e)
	}
	for j, column := range mirror(multipliers) {
		unit := make([]num.Rat, len(a))
		unit[j] = num.Of(1)
		if len(column) != len(a) || !same(unit, leftBy(exactRows(a), exactList(column))) {
			t.Fatalf("Multipliers of %s: %s", showRows(a), showRows(multipliers))
		}
	}
}

// P7.3: Outputs, Prices and Multipliers.
func TestOutputs(t *testing.T) {
	for _, x := range []struct{ a, demand, output, prices, multipliers string }{ // no output: ErrNone
		{"1/2", "1", "2", "2", "2"}, {"0", "7/3", "7/3", "7/3", "1"}, {"1", "1", "", "", ""}, {"2", "0", "", "", ""}, {"1/2", "0", "0", "0", "2"}, {"0 2;1/4 0", "1 1", "6 5/2", "5/2 6", "2 4;1/2 2"}, {"0 2;1/4 0", "0 0", "0 0", "0 0", "2 4;1/2 2"}, {"0 2;1/4 0", "1 0", "2 1/2", "2 4", "2 4;1/2 2"},
		{"0 1/2;1/2 0", "1 1", "2 2", "2 2", "4/3 2/3;2/3 4/3"}, {"0 1;0 0", "1/2 1/3", "5/6 1/3", "1/2 5/6", "1 1;0 1"}, {"0 1;1 0", "1 1", "", "", ""}, {"1 0;0 0", "0 1", "", "", ""}, {"2 0;0 2", "1 1", "", "", ""}, {"0 0 1/2;1 0 0;0 1 0", "1 1 1", "4 5 6", "6 5 4", "2 1 1;2 2 1;2 2 2"},
	} {
		a, demand := matrix(x.a), list(x.demand)
		output, e := leon.Outputs(a, demand)
		if show(output) != x.output || (e == api.ErrNone) != (x.output == "") {
			t.Errorf("Outputs of %s, %s: %s, %d", x.a, x.demand, show(output), e)
		}
		prices, e := leon.Prices(a, demand)
		if show(prices) != x.prices || (e == api.ErrNone) != (x.prices == "") {
			t.Errorf("Prices of %s, %s: %s, %d", x.a, x.demand, show(prices), e)
		}
		multipliers, e := leon.Multipliers(a)
		if showRows(multipliers) != x.multipliers || (e == api.ErrNone) != (x.multipliers == "") {
			t.Errorf("Multipliers of %s: %s, %d", x.a, showRows(multipliers), e)
		}
		checkOutputs(t, a, demand)
	}
	random := rand.New(rand.NewSource(7))
	for _, a := range tables(random, 500) {
		checkOutputs(t, a, someAmounts(random, len(a)))
	}
}

// longDemand has fractions of 20 digits that have nothing in common.
func longDemand() []num.Rat {
	var out []num.Rat
	for _, p := range primes(1<<62, 8) {
		r, e := ratio(9e18, p).Mul(ratio(97, 10))
		if e != api.OK {
			panic("a fraction is not small")
		}
		out = append(out, r)
	}
	return out
}

// P7.3: the longest fractions.
func TestLongOutputs(t *testing.T) {
	demand := longDemand()
	if digits(demand) != 20 {
		t.Fatalf("%d digits", digits(demand))
	}
	checkOutputs(t, primeTable(1, 20), demand)
	checkOutputs(t, primeTable(1, 9), demand)
	checkOutputs(t, primeTable(1, 7), demand)
}

// P7.6: what multipliers are at least, and demand times price is output times wage.
func TestLeontief(t *testing.T) {
	random := rand.New(rand.NewSource(8))
	found := 0
	for _, a := range tables(random, 500) {
		multipliers, e := leon.Multipliers(a)
		if e != api.OK {
			continue
		}
		found++
		for i, row := range multipliers {
			for j, r := range row {
				if r.Sign() < 0 || i == j && r.Cmp(num.Of(1)) < 0 {
					t.Fatalf("Multipliers of %s: %s", showRows(a), showRows(multipliers))
				}
			}
		}
		demand, wages := someAmounts(random, len(a)), someAmounts(random, len(a))
		output := must[[]num.Rat](t)(leon.Outputs(a, demand))
		prices := must[[]num.Rat](t)(leon.Prices(a, wages))
		paid, earned := product(exactList(demand), exactList(prices)), product(exactList(output), exactList(wages))
		if paid.Cmp(earned) != 0 {
			t.Fatalf("%s: %s is paid, %s earned", showRows(a), paid, earned)
		}
	}
	if found < 150 {
		t.Error(found)
	}
}
