package num_test

import (
	"math"
	"math/big"
	"math/rand"
	"reflect"
	"strings"
	"testing"

	"squeegee/api"
	"squeegee/num"
)

// P1.1: Of and Make.
func TestOfAndMake(t *testing.T) {
	for n, want := range map[int64]string{
		0: "0", 1: "1", -1: "-1", 999999999: "999999999", 1000000000: "1000000000", -1000000001: "-1000000001",
		math.MaxInt64: "9223372036854775807", math.MinInt64: "-9223372036854775808",
	} {
		if r := num.Of(n); r.String() != want {
			t.Errorf("Of(%d): %s", n, r)
		}
	}
	for _, c := range []struct {
		a, b int64
		want string
	}{
		{1, 2, "1/2"}, {2, 4, "1/2"}, {-2, 4, "-1/2"}, {2, -4, "-1/2"}, {-2, -4, "1/2"}, {6, 3, "2"}, {0, -5, "0"}, {5, -1, "-5"},
		{math.MinInt64, math.MinInt64, "1"}, {math.MinInt64, -1, "9223372036854775808"},
		{1, math.MinInt64, "-1/9223372036854775808"}, {math.MaxInt64, math.MinInt64, "-9223372036854775807/9223372036854775808"},
	} {
		if r, e := num.Make(c.a, c.b); r.String() != c.want || e != api.OK {
			t.Errorf("Make(%d, %d): %s, %d", c.a, c.b, r, e)
		}
	}
	for _, a := range []int64{0, 1, math.MinInt64} {
		if r, e := num.Make(a, 0); e != api.ErrZero || !isZero(r) {
			t.Errorf("Make(%d, 0): %s, %d", a, r, e)
		}
	}
}

// P1.1: what is a canonical form is read and written again as it was.
func TestCanonicalForms(t *testing.T) {
	for _, s := range []string{
		"0", "1", "-1", "1/2", "-1/2", "10", "100000000", "1000000000", "-999999999999999999", "1000000000000000000",
		"3/1000000000", "1/1000000000000000000000000000", "-1000000000000000001/1000000000",
	} {
		r, e := num.Parse(s)
		if r.String() != s || e != api.OK {
			t.Errorf("Parse(%q): %s, %d", s, r, e)
		}
		top, low, divided := strings.Cut(s, "/")
		if !divided {
			low = "1"
		}
		if a, b := r.Parts(); a != top || b != low {
			t.Errorf("Parts of %s: %s, %s", s, a, b)
		}
	}
}

// P1.1: what is not a canonical form.
func TestNotCanonical(t *testing.T) {
	for _, s := range []string{
		"", "-", "/", "-/", "1/", "/1", "-/2", "2/4", "3/1", "-3/1", "-0", "0/1", "0/3", "-0/3", "1/0", "0/0", "1/-2", "-1/-2", "00", "01", "-01", "1/02", "0/",
		"+1", "--1", "1-", " 1", "1 ", "1/ 2", "1 /2", "1/2/3", "1//2", "1.5", "1e3", "1_0", "0x1", "a", "1a", "\x00", "1\n", "\u0661", "1/\u0662",
		"1000000000/1000000000", "999999999000000000/3", "6000000000000000000000/4000000000000000000001000000",
	} {
		if r, e := num.Parse(s); e != api.ErrForm || !isZero(r) {
			t.Errorf("Parse(%q): %s, %d", s, r, e)
		}
	}
}

// P1.1: the order is ErrLong, ErrForm, ErrSize.
func TestParseOrderOfErrors(t *testing.T) {
	nines := func(n int) string { return strings.Repeat("9", n) }
	zeros := func(n int) string { return strings.Repeat("0", n) }
	for _, c := range []struct {
		name, s string
		want    api.Errno
	}{
		{"MaxDigits", nines(api.MaxDigits), api.OK},
		{"MaxDigits below 0", "-" + nines(api.MaxDigits), api.OK},
		{"one digit more", nines(api.MaxDigits + 1), api.ErrSize},
		{"one digit more below 0", "-1" + zeros(api.MaxDigits), api.ErrSize},
		{"MaxDigits below the line", "1/" + nines(api.MaxDigits), api.OK},
		{"MaxDigits twice", "-1" + zeros(api.MaxDigits-1) + "/" + nines(api.MaxDigits), api.OK},
		{"one digit more below the line", "1/1" + zeros(api.MaxDigits), api.ErrSize},
		{"one digit more and not lowest", "2/4" + zeros(api.MaxDigits), api.ErrForm},
		{"one digit more and a leading zero", "0" + nines(api.MaxDigits), api.ErrForm},
		{"one digit more above and 1 below", nines(api.MaxDigits+1) + "/1", api.ErrForm},
		{"both longer, not lowest", "2" + zeros(20400) + "/4" + zeros(20400), api.ErrForm},
		{"both longer, lowest", "1" + zeros(20400) + "/" + nines(20400), api.ErrSize},
		{"41000 bytes", nines(41000), api.ErrSize},
		{"41000 bytes, a leading zero", "0" + nines(40999), api.ErrForm},
		{"41000 bytes of no number", strings.Repeat("x", 41000), api.ErrForm},
		{"41001 bytes", nines(41001), api.ErrLong},
		{"41001 bytes of no number", strings.Repeat("x", 41001), api.ErrLong},
	} {
		r, e := num.Parse(c.s)
		if e != c.want || e != api.OK && !isZero(r) || e == api.OK && r.String() != c.s {
			t.Errorf("%s: error %d instead of %d, %.40s", c.name, e, c.want, r)
		}
	}
}

// P1.1: the zero value is 0.
func TestZeroValue(t *testing.T) {
	var zero num.Rat
	a, b := zero.Parts()
	if zero.String() != "0" || a != "0" || b != "1" || zero.Sign() != 0 || zero.Neg().String() != "0" || zero.Cmp(num.Of(0)) != 0 {
		t.Errorf("%s, %s, %s", zero, a, b)
	}
	half := read(t, "1/2")
	for name, c := range map[string]struct {
		r    num.Rat
		want string
	}{
		"0 + 1/2": {must[num.Rat](t)(zero.Add(half)), "1/2"},
		"1/2 + 0": {must[num.Rat](t)(half.Add(zero)), "1/2"},
		"0 - 1/2": {must[num.Rat](t)(zero.Sub(half)), "-1/2"},
		"0 * 1/2": {must[num.Rat](t)(zero.Mul(half)), "0"},
		"1/2 * 0": {must[num.Rat](t)(half.Mul(zero)), "0"},
		"0 / 1/2": {must[num.Rat](t)(zero.Quo(half)), "0"},
		"0 + 0":   {must[num.Rat](t)(zero.Add(zero)), "0"},
	} {
		if c.r.String() != c.want {
			t.Errorf("%s: %s", name, c.r)
		}
	}
	if r, e := half.Quo(zero); e != api.ErrZero || !isZero(r) {
		t.Errorf("Quo: %s, %d", r, e)
	}
	if r, e := zero.Quo(zero); e != api.ErrZero || !isZero(r) {
		t.Errorf("Quo: %s, %d", r, e)
	}
}

// P1.1: whatever way a fraction comes about, it is the same value.
func TestOneForm(t *testing.T) {
	three := read(t, "3")
	for name, r := range map[string]num.Rat{
		"Of": num.Of(3), "Make": must[num.Rat](t)(num.Make(-6, -2)), "Neg": num.Of(-3).Neg(),
		"Add": must[num.Rat](t)(read(t, "5/2").Add(read(t, "1/2"))),
		"Sub": must[num.Rat](t)(read(t, "1000000003").Sub(num.Of(1000000000))),
		"Mul": must[num.Rat](t)(read(t, "3/1000000007").Mul(num.Of(1000000007))),
		"Quo": must[num.Rat](t)(num.Of(-6).Quo(num.Of(-2))),
	} {
		if !reflect.DeepEqual(r, three) {
			t.Errorf("%s: %#v is not %#v", name, r, three)
		}
	}
	if r := must[num.Rat](t)(three.Sub(three)); !isZero(r) {
		t.Errorf("3 - 3: %#v", r)
	}
}

// P1.1: results one digit below and beyond the limit.
func TestSmall(t *testing.T) {
	most := read(t, strings.Repeat("9", api.MaxDigits))
	power := read(t, "1"+strings.Repeat("0", api.MaxDigits-1))
	half := read(t, "1"+strings.Repeat("0", api.MaxDigits/2))
	other := read(t, "1"+strings.Repeat("0", api.MaxDigits/2-1))
	over := func(r num.Rat) num.Rat { return must[num.Rat](t)(num.Of(1).Quo(r)) }
	for name, call := range map[string]func() (num.Rat, api.Errno){
		"most + 1":              func() (num.Rat, api.Errno) { return most.Add(num.Of(1)) },
		"-most - 1":             func() (num.Rat, api.Errno) { return most.Neg().Sub(num.Of(1)) },
		"most * 2":              func() (num.Rat, api.Errno) { return most.Mul(num.Of(2)) },
		"power * 10":            func() (num.Rat, api.Errno) { return power.Mul(num.Of(10)) },
		"half * half":           func() (num.Rat, api.Errno) { return half.Mul(half) },
		"most * most":           func() (num.Rat, api.Errno) { return most.Mul(most) },
		"1/most / 2":            func() (num.Rat, api.Errno) { return over(most).Quo(num.Of(2)) },
		"1/half / half":         func() (num.Rat, api.Errno) { return over(half).Quo(half) },
		"most / (1/2)":          func() (num.Rat, api.Errno) { return most.Quo(read(t, "1/2")) },
		"1/most + 1/power":      func() (num.Rat, api.Errno) { return over(most).Add(over(power)) },
		"most + 1/2":            func() (num.Rat, api.Errno) { return most.Add(read(t, "1/2")) },
		"1/most + 1":            func() (num.Rat, api.Errno) { return over(most).Add(num.Of(1)) },
		"1/power - 1/(power-1)": func() (num.Rat, api.Errno) { return over(power).Sub(over(must[num.Rat](t)(power.Sub(num.Of(1))))) },
	} {
		if r, e := call(); e != api.ErrSize || !isZero(r) {
			t.Errorf("%s: %.40s, %d", name, r, e)
		}
	}
	for name, call := range map[string]func() (num.Rat, api.Errno){
		"most - 1":        func() (num.Rat, api.Errno) { return most.Sub(num.Of(1)) },
		"most + -most":    func() (num.Rat, api.Errno) { return most.Add(most.Neg()) },
		"power * 9":       func() (num.Rat, api.Errno) { return power.Mul(num.Of(9)) },
		"half * other":    func() (num.Rat, api.Errno) { return half.Mul(other) },
		"most / most":     func() (num.Rat, api.Errno) { return most.Quo(most) },
		"most / power":    func() (num.Rat, api.Errno) { return most.Quo(power) },
		"1/most - 1/most": func() (num.Rat, api.Errno) { return over(most).Sub(over(most)) },
		"1/most * most":   func() (num.Rat, api.Errno) { return over(most).Mul(most) },
		"1/most + 8/most": func() (num.Rat, api.Errno) { return over(most).Add(must[num.Rat](t)(num.Of(8).Quo(most))) },
	} {
		if _, e := call(); e != api.OK {
			t.Errorf("%s: %d", name, e)
		}
	}
}

// P1.1: a sum that is small although its parts over one denominator are not.
func TestSmallAfterReducing(t *testing.T) {
	n := new(big.Int).Exp(big.NewInt(10), big.NewInt(api.MaxDigits-1), nil)
	part := func(a, b int64) *big.Rat {
		return new(big.Rat).SetFrac(new(big.Int).Add(n, big.NewInt(a)), big.NewInt(b))
	}
	x, y := part(1, 3), part(0, 6)
	want := canonical(new(big.Rat).Add(x, y))
	if r, e := read(t, canonical(x)).Add(read(t, canonical(y))); r.String() != want || e != api.OK {
		t.Errorf("%d, %.40s instead of %.40s", e, r, want)
	}
}

// P1.1: all operations against another calculation, with numbers of few and of many limbs.
func TestOperations(t *testing.T) {
	random := rand.New(rand.NewSource(1))
	for i := range 3000 {
		most := []int{3, 12, 30, 200}[i%4]
		r, x := fraction(t, random, most)
		s, y := fraction(t, random, most)
		if i%10 == 0 {
			s, y = r, x
		}
		if r.Cmp(s) != x.Cmp(y) || s.Cmp(r) != y.Cmp(x) || r.Sign() != x.Sign() || r.Neg().String() != canonical(new(big.Rat).Neg(x)) {
			t.Fatalf("Cmp, Sign or Neg of %s and %s: %d, %d, %s", r, s, r.Cmp(s), r.Sign(), r.Neg())
		}
		checkOperation(t, "Add", r, s, num.Rat.Add, new(big.Rat).Add(x, y))
		checkOperation(t, "Sub", r, s, num.Rat.Sub, new(big.Rat).Sub(x, y))
		checkOperation(t, "Mul", r, s, num.Rat.Mul, new(big.Rat).Mul(x, y))
		if y.Sign() != 0 {
			checkOperation(t, "Quo", r, s, num.Rat.Quo, new(big.Rat).Quo(x, y))
		}
		if r.String() != canonical(x) || s.String() != canonical(y) {
			t.Fatalf("an operand changed: %s, %s", r, s)
		}
	}
}

func checkOperation(t *testing.T, name string, r, s num.Rat, call func(num.Rat, num.Rat) (num.Rat, api.Errno), want *big.Rat) {
	t.Helper()
	got, e := call(r, s)
	if got.String() != canonical(want) || e != api.OK {
		t.Fatalf("%s of %s and %s: %s, %d instead of %s", name, r, s, got, e, canonical(want))
	}
}

// P1.1: the order of fractions of different signs and sizes.
func TestCmp(t *testing.T) {
	rising := list(t, "-1000000000000000000 -1000000000 -3/2 -1 -1/2 -1/3 -1/1000000000 0 1/1000000000 1/3 1/2 1 3/2 999999999 1000000000 1000000000000000000")
	for i, r := range rising {
		for j, s := range rising {
			want := max(-1, min(1, i-j))
			if got := r.Cmp(s); got != want {
				t.Errorf("%s and %s: %d", r, s, got)
			}
		}
		if want := max(-1, min(1, i-7)); r.Sign() != want {
			t.Errorf("Sign of %s: %d", r, r.Sign())
		}
	}
}
