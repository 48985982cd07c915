package num

// divide returns the quotient of x and y, which is not 0, rounded down, and what is left of x.
func divide(x, y natural) (natural, natural) {
	if compare(x, y) < 0 {
		return nil, x.clone()
	}
	if len(y) == 1 {
		quotient, left := divideByLimb(x, y[0])
		return quotient, naturalOf(uint64(left))
	}
	// With a top limb of at least half the base, an estimate from two limbs is at most two too great.
	scale := base / (y[len(y)-1] + 1)
	rest, by := scaled(x, scale), scaled(y, scale)[:len(y)]
	quotient := make(natural, len(x)-len(y)+1)
	for i := len(x) - len(y); i >= 0; i-- {
		part := rest[i : i+len(y)+1]
		limb := estimate(part, by)
		if subtractTimes(part, by, limb) {
			addBack(part, by)
			limb--
		}
		quotient[i] = uint32(limb)
	}
	left, _ := divideByLimb(rest, scale)
	return quotient.cut(), left
}

// quotient is x divided by y, which divides it.
func quotient(x, y natural) natural {
	if y.isOne() {
		return x.clone()
	}
	out, _ := divide(x, y)
	return out
}

func divideByLimb(x natural, by uint32) (natural, uint32) {
	out := make(natural, len(x))
	left := uint64(0)
	for i := len(x) - 1; i >= 0; i-- {
		t := left*base + uint64(x[i])
		out[i] = uint32(t / uint64(by))
		left = t % uint64(by)
	}
	return out.cut(), uint32(left)
}

// scaled is x times a limb, with one limb more than x, be it 0.
func scaled(x natural, by uint32) natural {
	out := make(natural, len(x)+1)
	carry := uint64(0)
	for i, limb := range x {
		t := uint64(limb)*uint64(by) + carry
		out[i] = uint32(t % base)
		carry = t / base
	}
	out[len(x)] = uint32(carry)
	return out
}

// estimate is the quotient of part, which has one limb more than by, or one more than it.
func estimate(part, by natural) uint64 {
	n := len(by)
	top, next := uint64(by[n-1]), uint64(by[n-2])
	high := uint64(part[n])*base + uint64(part[n-1])
	guess, left := high/top, high%top
	for guess >= base || guess*next > left*base+uint64(part[n-2]) {
		guess--
		left += top
		if left >= base {
			break
		}
	}
	return guess
}

// subtractTimes takes by, as often as times says, from part, and reports whether that was more than there was.
func subtractTimes(part, by natural, times uint64) bool {
	borrow := uint64(0)
	for i, limb := range by {
		// The square of the base keeps the difference above 0; it comes back out of the borrow.
		t := uint64(part[i]) + base*base - times*uint64(limb) - borrow
		part[i] = uint32(t % base)
		borrow = base - t/base
	}
	top := uint64(part[len(by)])
	if top < borrow {
		part[len(by)] = uint32(top + base - borrow)
		return true
	}
	part[len(by)] = uint32(top - borrow)
	return false
}

// addBack adds by to part; what is carried out of it undoes the borrow of subtractTimes.
func addBack(part, by natural) {
	carry := uint32(0)
	for i, limb := range by {
		t := part[i] + limb + carry
		carry = 0
		if t >= base {
			t -= base
			carry = 1
		}
		part[i] = t
	}
	part[len(by)] = (part[len(by)] + carry) % base
}
