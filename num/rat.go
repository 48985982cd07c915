package num

import "squeegee/api"

// attempt returns what work returns, or ErrSize and the zero value if work was left because something in it was not small.
func attempt[T any](work func() T) (result T, e api.Errno) {
	defer func() {
		if recover() != nil {
			e = api.ErrSize
		}
	}()
	return work(), api.OK
}

// mustBeSmall leaves the work that is attempted if a number has too many digits.
func mustBeSmall(digits int) {
	if digits > api.MaxDigits {
		panic(api.ErrSize)
	}
}

// small is r, if it is small.
func small(r Rat) Rat {
	mustBeSmall(r.top.size.digits())
	mustBeSmall(r.low.digits())
	return r
}

// smallProduct is x times y, if it is small. A product that cannot be is not calculated.
func smallProduct(x, y natural) natural {
	if len(x) > 0 && len(y) > 0 {
		mustBeSmall(x.digits() + y.digits() - 1)
	}
	out := product(x, y)
	mustBeSmall(out.digits())
	return out
}

// lowest is x divided by y, which is not 0, however large it is.
func lowest(x, y whole) Rat {
	size, low := reduced(x.size, y.size)
	return ratio(x.negative != y.negative, size, low)
}

// ratio is the fraction of a numerator and a denominator in lowest terms.
func ratio(negative bool, size, low natural) Rat {
	if low.isOne() {
		low = nil
	}
	return Rat{signed(negative, size), low}
}

// reduced returns x and y divided by their greatest common divisor, in new memory.
func reduced(x, y natural) (natural, natural) {
	g := gcd(x, y)
	return quotient(x, g), quotient(y, g)
}

func (r Rat) denominator() natural {
	if r.low == nil {
		return naturalOf(1)
	}
	return r.low
}

// bottom is the denominator as a whole number.
func (r Rat) bottom() whole {
	return whole{size: r.denominator()}
}

// inverse is 1 divided by r, which is not 0.
func (r Rat) inverse() Rat {
	return ratio(r.top.negative, r.denominator(), r.top.size)
}

// multiply divides crosswise first: what is left is in lowest terms, and no larger than the result.
func multiply(r, s Rat) Rat {
	a, d := reduced(r.top.size, s.denominator())
	c, b := reduced(s.top.size, r.denominator())
	return ratio(r.top.negative != s.top.negative, smallProduct(a, c), smallProduct(b, d))
}

// add brings both to their least common denominator: all that the sum can still be reduced by divides the common part g of the denominators.
func add(r, s Rat) Rat {
	g := gcd(r.denominator(), s.denominator())
	b := whole{size: quotient(r.denominator(), g)}
	d := whole{size: quotient(s.denominator(), g)}
	top := r.top.times(d).plus(s.top.times(b))
	size, rest := reduced(top.size, g)
	low := smallProduct(smallProduct(b.size, d.size), rest)
	return small(ratio(top.negative, size, low))
}
