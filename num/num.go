// Package num is layer 1, fractions and linear equations: see shared/doc/01-num.md.
package num

import (
	"strings"

	"squeegee/api"
)

// maxBytes is the length of the longest string that Parse examines.
const maxBytes = 41000

// Rat is a fraction in lowest terms. Its limbs are never written to once it is made, so that copies are independent.
type Rat struct {
	top whole
	low natural // nil for 1, so that the zero value is 0 and each fraction has one form only
}

// Of returns n as a fraction.
func Of(n int64) Rat {
	return Rat{top: wholeOf(n)}
}

// Make returns a divided by b, or ErrZero if b is 0.
func Make(a, b int64) (Rat, api.Errno) {
	if b == 0 {
		return Rat{}, api.ErrZero
	}
	return lowest(wholeOf(a), wholeOf(b)), api.OK
}

// Parse returns the fraction of which s is the canonical form: ErrLong for a string that is too long, ErrForm for another one, ErrSize for a fraction that is not small.
func Parse(s string) (Rat, api.Errno) {
	if len(s) > maxBytes {
		return Rat{}, api.ErrLong
	}
	unsigned, negative := strings.CutPrefix(s, "-")
	over, under, divided := strings.Cut(unsigned, "/")
	if !isNumber(over) || over == "0" && negative {
		return Rat{}, api.ErrForm
	}
	r := Rat{top: signed(negative, readNatural(over))}
	if divided {
		if !isNumber(under) || under == "0" || under == "1" {
			return Rat{}, api.ErrForm
		}
		// Of 0 and a denominator the greatest common divisor is the denominator, so 0/3 ends here as 3/3 does.
		r.low = readNatural(under)
		if !gcd(r.top.size, r.low).isOne() {
			return Rat{}, api.ErrForm
		}
	}
	return attempt(func() Rat { return small(r) })
}

// isNumber reports whether s consists of decimal digits, without a leading zero.
func isNumber(s string) bool {
	for _, c := range []byte(s) {
		if c < '0' || c > '9' {
			return false
		}
	}
	return s == "0" || s != "" && s[0] != '0'
}

// String returns the canonical form.
func (r Rat) String() string {
	if r.low == nil {
		return r.top.String()
	}
	return r.top.String() + "/" + r.low.String()
}

// Parts returns the canonical forms of the numerator and of the denominator.
func (r Rat) Parts() (string, string) {
	return r.top.String(), r.denominator().String()
}

// Sign returns -1, 0 or 1.
func (r Rat) Sign() int {
	return r.top.sign()
}

// Cmp returns the sign of r less s.
func (r Rat) Cmp(s Rat) int {
	return compareWholes(r.top.times(s.bottom()), s.top.times(r.bottom()))
}

// Neg returns 0 less r.
func (r Rat) Neg() Rat {
	return Rat{r.top.negated(), r.low.clone()}
}

// Add returns the sum.
func (r Rat) Add(s Rat) (Rat, api.Errno) {
	return attempt(func() Rat { return add(r, s) })
}

// Sub returns r less s.
func (r Rat) Sub(s Rat) (Rat, api.Errno) {
	return attempt(func() Rat { return add(r, s.Neg()) })
}

// Mul returns the product.
func (r Rat) Mul(s Rat) (Rat, api.Errno) {
	return attempt(func() Rat { return multiply(r, s) })
}

// Quo returns r divided by s, or ErrZero if s is 0.
func (r Rat) Quo(s Rat) (Rat, api.Errno) {
	if s.Sign() == 0 {
		return Rat{}, api.ErrZero
	}
	return attempt(func() Rat { return multiply(r, s.inverse()) })
}
