package num

// gcd is the greatest number that divides both, of which one may be 0. It is Euclid's way in Lehmer's steps: many small quotients are found from the leading digits alone, and carried out at once.
func gcd(x, y natural) natural {
	x, y = x.clone(), y.clone()
	if compare(x, y) < 0 {
		x, y = y, x
	}
	for len(y) > 2 {
		s := leadingSteps(x, y)
		if s.b == 0 {
			_, left := divide(x, y)
			x, y = y, left
			continue
		}
		x, y = s.carryOut(x, y)
	}
	if len(y) > 0 && len(x) > 2 {
		_, left := divide(x, y)
		x, y = y, left
	}
	if len(y) == 0 {
		return x
	}
	u, v := x.small(), y.small()
	for v > 0 {
		u, v = v, u%v
	}
	return naturalOf(u)
}

// small is the number, which has at most two limbs.
func (n natural) small() uint64 {
	out := uint64(0)
	for i := len(n) - 1; i >= 0; i-- {
		out = out*base + uint64(n[i])
	}
	return out
}

// steps are some steps of Euclid's way, done to x and y: they lead to ax + by and cx + dy.
type steps struct{ a, b, c, d int64 }

// leadingSteps returns the steps that the 18 leading digits of x, and the digits of y at the same places, decide. x is at least y and has three limbs or more.
func leadingSteps(x, y natural) steps {
	u, v := leading(x, y)
	s := steps{1, 0, 0, 1}
	for v+s.c != 0 && v+s.d != 0 {
		// If both quotients, of the least and of the greatest that x and y may be, are the same, it is that of x and y.
		q := (u + s.a) / (v + s.c)
		if q != (u+s.b)/(v+s.d) || q >= base {
			break
		}
		next := steps{s.c, s.d, s.a - q*s.c, s.b - q*s.d}
		if !isLimb(next.c) || !isLimb(next.d) {
			break
		}
		s = next
		u, v = v, u-q*v
	}
	return s
}

// isLimb reports whether a limb times n, and a second such product, can be added in 64 bits.
func isLimb(n int64) bool {
	return -base < n && n < base
}

// leading returns the 18 leading digits of x, and the digits of y at the same places.
func leading(x, y natural) (int64, int64) {
	n := len(x)
	low := int64(1)
	for range limbLength(x[n-1]) {
		low *= 10
	}
	high := base / low
	at := func(z natural) int64 {
		var limbs [3]int64
		for i := range limbs {
			if n-1-i < len(z) {
				limbs[i] = int64(z[n-1-i])
			}
		}
		return limbs[0]*high*base + limbs[1]*high + limbs[2]/low
	}
	return at(x), at(y)
}

// carryOut does the steps, at least one, to x and y, in their memory. What they lead to is at most y: the limbs above those of y become 0.
func (s steps) carryOut(x, y natural) (natural, natural) {
	var carryX, carryY int64
	for i, v := range y {
		u := x[i]
		x[i], carryX = splitLimb(s.a*int64(u) + s.b*int64(v) + carryX)
		y[i], carryY = splitLimb(s.c*int64(u) + s.d*int64(v) + carryY)
	}
	return x[:len(y)].cut(), y.cut()
}

// splitLimb returns the limb at which t ends, and what is carried, also of t below 0, if it is not below twice the square of the base.
func splitLimb(t int64) (uint32, int64) {
	u := uint64(t + 2*base*base)
	return uint32(u % base), int64(u/base) - 2*base
}
