package num

// whole is a whole number: 0 is never negative.
type whole struct {
	negative bool
	size     natural
}

func wholeOf(n int64) whole {
	if n < 0 {
		return whole{true, naturalOf(-uint64(n))} // the wraparound is right for the least int64, too
	}
	return whole{false, naturalOf(uint64(n))}
}

func signed(negative bool, size natural) whole {
	return whole{negative && len(size) > 0, size}
}

func (x whole) sign() int {
	switch {
	case len(x.size) == 0:
		return 0
	case x.negative:
		return -1
	}
	return 1
}

func (x whole) String() string {
	if x.negative {
		return "-" + x.size.String()
	}
	return x.size.String()
}

func (x whole) negated() whole {
	return signed(!x.negative, x.size.clone())
}

func (x whole) plus(y whole) whole {
	switch {
	case x.negative == y.negative:
		return whole{x.negative, sum(x.size, y.size)}
	case compare(x.size, y.size) >= 0:
		return signed(x.negative, difference(x.size, y.size))
	}
	return signed(y.negative, difference(y.size, x.size))
}

func (x whole) times(y whole) whole {
	return signed(x.negative != y.negative, product(x.size, y.size))
}

// over is x divided by y, which divides it.
func (x whole) over(y whole) whole {
	return signed(x.negative != y.negative, quotient(x.size, y.size))
}

// compareWholes returns -1, 0 or 1.
func compareWholes(x, y whole) int {
	switch {
	case x.negative && y.negative:
		return compare(y.size, x.size)
	case x.negative:
		return -1
	case y.negative:
		return 1
	}
	return compare(x.size, y.size)
}
