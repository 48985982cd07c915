package num_test

import (
	"math/rand"
	"testing"

	"squeegee/api"
	"squeegee/num"
)

// P1.4: the laws of an ordered field.
func TestFieldLaws(t *testing.T) {
	random := rand.New(rand.NewSource(7))
	add, mul := combine(t, num.Rat.Add), combine(t, num.Rat.Mul)
	one, zero := num.Of(1), num.Of(0)
	for i := range 1000 {
		most := []int{2, 10, 40}[i%3]
		a, _ := fraction(t, random, most)
		b, _ := fraction(t, random, most)
		c, _ := fraction(t, random, most)
		equal(t, "a + b = b + a", add(a, b), add(b, a))
		equal(t, "ab = ba", mul(a, b), mul(b, a))
		equal(t, "(a + b) + c = a + (b + c)", add(add(a, b), c), add(a, add(b, c)))
		equal(t, "(ab)c = a(bc)", mul(mul(a, b), c), mul(a, mul(b, c)))
		equal(t, "a(b + c) = ab + ac", mul(a, add(b, c)), add(mul(a, b), mul(a, c)))
		equal(t, "a + 0 = a", add(a, zero), a)
		equal(t, "1a = a", mul(one, a), a)
		equal(t, "a + -a = 0", add(a, a.Neg()), zero)
		equal(t, "a - b = a + -b", must[num.Rat](t)(a.Sub(b)), add(a, b.Neg()))
		if a.Sign() != 0 {
			equal(t, "a(1/a) = 1", mul(a, must[num.Rat](t)(one.Quo(a))), one)
			equal(t, "(b/a)a = b", mul(must[num.Rat](t)(b.Quo(a)), a), b)
		}
		checkOrder(t, a, b, c)
	}
}

// checkOrder checks that the order is total, and kept by sums and by products with what is above 0.
func checkOrder(t *testing.T, a, b, c num.Rat) {
	t.Helper()
	add, mul := combine(t, num.Rat.Add), combine(t, num.Rat.Mul)
	if a.Cmp(b) != -b.Cmp(a) || (a.Cmp(b) == 0) != (a.String() == b.String()) || a.Cmp(b) != must[num.Rat](t)(a.Sub(b)).Sign() {
		t.Fatalf("%s and %s: %d", a, b, a.Cmp(b))
	}
	if a.Cmp(b) <= 0 && b.Cmp(c) <= 0 && a.Cmp(c) > 0 {
		t.Fatalf("%s, %s, %s do not rise", a, b, c)
	}
	if add(a, c).Cmp(add(b, c)) != a.Cmp(b) {
		t.Fatalf("%s and %s, more %s", a, b, c)
	}
	if mul(a, c).Cmp(mul(b, c)) != a.Cmp(b)*c.Sign() {
		t.Fatalf("%s and %s, times %s", a, b, c)
	}
}

// P1.4: Det of a product, Rank of the columns, and how many solutions Kernel returns.
func TestMatrixLaws(t *testing.T) {
	random := rand.New(rand.NewSource(8))
	products := 0
	for i := range 120 {
		n := 1 + random.Intn(8)
		a, _ := someMatrix(t, random, n, n, 1+i%3)
		b, _ := someMatrix(t, random, n, n, 1+i%3)
		if product := times(t, a, b); num.Check(product) == api.OK {
			of := func(m [][]num.Rat) num.Rat { return must[num.Rat](t)(num.Det(m)) }
			products++
			equal(t, "Det", of(product), combine(t, num.Rat.Mul)(of(a), of(b)))
			equal(t, "Det of the columns", of(a), of(transposed(a)))
		}
		m, _ := someMatrix(t, random, n, 1+random.Intn(8), []int{1, 20}[i%2])
		m = dependent(t, random, m)
		rank := must[int](t)(num.Rank(m))
		if rank != must[int](t)(num.Rank(transposed(m))) {
			t.Errorf("%s: the rank of the columns is another one", showRows(m))
		}
		if kernel := must[[][]num.Rat](t)(num.Kernel(m)); len(kernel)+rank != len(m[0]) {
			t.Errorf("%s: %d and %d", showRows(m), len(kernel), rank)
		}
	}
	if products < 40 {
		t.Errorf("only %d products are matrices", products)
	}
}

// combine is an operation that must have no error.
func combine(t *testing.T, call func(num.Rat, num.Rat) (num.Rat, api.Errno)) func(num.Rat, num.Rat) num.Rat {
	return func(a, b num.Rat) num.Rat {
		t.Helper()
		return must[num.Rat](t)(call(a, b))
	}
}

func equal(t *testing.T, law string, a, b num.Rat) {
	t.Helper()
	if a.Cmp(b) != 0 || a.String() != b.String() {
		t.Fatalf("%s: %s, %s", law, a, b)
	}
}
