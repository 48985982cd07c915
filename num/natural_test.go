package num

import (
	"math/big"
	"math/rand"
	"strings"
	"testing"
)

// bigOf is a natural of math/big.
func bigOf(t *testing.T, n natural) *big.Int {
	t.Helper()
	out, ok := new(big.Int).SetString(n.String(), 10)
	if !ok {
		t.Fatalf("%s is not a number", n)
	}
	return out
}

// someNatural is a number of up to most limbs, of which many are the least, the greatest or next to the middle: these are the limbs for which an estimate of a quotient is wrong.
func someNatural(random *rand.Rand, most int) natural {
	out := make(natural, 1+random.Intn(most))
	for i := range out {
		switch random.Intn(6) {
		case 0:
		case 1:
			out[i] = base - 1
		case 2:
			out[i] = base / 2
		case 3:
			out[i] = 1
		default:
			out[i] = uint32(random.Intn(base))
		}
	}
	return out.cut()
}

// P1.1: limbs carry, borrow and divide without a loss.
func TestLimbs(t *testing.T) {
	random := rand.New(rand.NewSource(2))
	for range 50000 {
		x, y := someNatural(random, 9), someNatural(random, 6)
		a, b := bigOf(t, x), bigOf(t, y)
		if compare(x, y) != a.Cmp(b) || compare(y, x) != b.Cmp(a) {
			t.Fatalf("compare %s, %s: %d", x, y, compare(x, y))
		}
		same(t, "sum", x, y, sum(x, y), new(big.Int).Add(a, b))
		same(t, "product", x, y, product(x, y), new(big.Int).Mul(a, b))
		if a.Cmp(b) >= 0 {
			same(t, "difference", x, y, difference(x, y), new(big.Int).Sub(a, b))
		}
		if len(y) > 0 {
			q, left := divide(x, y)
			c, d := new(big.Int).QuoRem(a, b, new(big.Int))
			same(t, "quotient", x, y, q, c)
			same(t, "rest", x, y, left, d)
		}
	}
}

// P1.1: a divisor whose estimates are too great by one even with two limbs, so that it is added back.
func TestAddBack(t *testing.T) {
	x := natural{0, 0, base / 2, base/2 - 1}.cut()
	y := natural{base - 1, 0, base / 2}.cut()
	a, b := bigOf(t, x), bigOf(t, y)
	q, left := divide(x, y)
	c, d := new(big.Int).QuoRem(a, b, new(big.Int))
	same(t, "quotient", x, y, q, c)
	same(t, "rest", x, y, left, d)
	part := append(natural(nil), x...)
	if !subtractTimes(part, y, estimate(part, y)) {
		t.Errorf("the estimate is right: this test tests nothing")
	}
}

// P1.1: the greatest common divisor, of numbers that have one and of those that have not.
func TestGcd(t *testing.T) {
	random := rand.New(rand.NewSource(3))
	for i := range 5000 {
		most := []int{2, 4, 12, 60}[i%4]
		x, y, z := someNatural(random, most), someNatural(random, most), someNatural(random, most)
		if i%3 == 0 {
			x, y = product(x, z), product(y, z)
		}
		same(t, "gcd", x, y, gcd(x, y), new(big.Int).GCD(nil, nil, bigOf(t, x), bigOf(t, y)))
	}
	// All quotients of two consecutive Fibonacci numbers are 1; those of a power and its successor are as large as can be.
	x, y := naturalOf(1), naturalOf(1)
	for range 20000 {
		x, y = sum(x, y), x
	}
	if !gcd(x, y).isOne() {
		t.Errorf("Fibonacci numbers: %s", gcd(x, y))
	}
	x = readNatural("1" + strings.Repeat("0", 5000))
	if !gcd(x, sum(x, naturalOf(1))).isOne() {
		t.Errorf("a power and its successor")
	}
}

// P1.1, R4: arguments stay as they are, and a result shares no memory with them.
func TestNewMemory(t *testing.T) {
	random := rand.New(rand.NewSource(4))
	for range 300 {
		x, y := someNatural(random, 6), someNatural(random, 6)
		a, b := x.String(), y.String()
		results := []natural{sum(x, y), product(x, y), gcd(x, y), x.clone()}
		if compare(x, y) >= 0 {
			results = append(results, difference(x, y))
		}
		if len(y) > 0 {
			q, left := divide(x, y)
			results = append(results, q, left, quotient(product(x, y), y))
		}
		r := Rat{top: signed(true, x)}
		results = append(results, r.Neg().top.size, add(r, Rat{}).top.size, multiply(r, Of(1)).top.size)
		for _, n := range results {
			clear(n)
			if cap(n) != len(n) {
				t.Fatalf("a capacity of %d for %d limbs", cap(n), len(n))
			}
		}
		if x.String() != a || y.String() != b {
			t.Fatalf("%s and %s became %s and %s", a, b, x, y)
		}
	}
}

func same(t *testing.T, name string, x, y, got natural, want *big.Int) {
	t.Helper()
	if got.String() != want.String() {
		t.Fatalf("%s of %s and %s: %s instead of %s", name, x, y, got, want)
	}
	if len(got) > 0 && got[len(got)-1] == 0 || got != nil && len(got) == 0 {
		t.Fatalf("%s of %s and %s: %v is not cut", name, x, y, []uint32(got))
	}
}
