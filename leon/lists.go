package leon

import (
	"strings"

	"squeegee/num"
)

// combine lists what an operation makes of the first elements of two lists, of the second ones, and so on.
func combine[A, B, C any](a []A, b []B, operation func(A, B) C) []C {
	var out []C
	for i := range a {
		out = append(out, operation(a[i], b[i]))
	}
	return out
}

// multiples are the fractions times a factor.
func multiples(list []num.Rat, factor num.Rat) []num.Rat {
	var out []num.Rat
	for _, r := range list {
		out = append(out, product(r, factor))
	}
	return out
}

// used is what is used of each firm's work to make amounts, if each unit needs what the matrix says.
func used(needs [][]num.Rat, amounts []num.Rat) []num.Rat {
	var out []num.Rat
	for _, row := range needs {
		out = append(out, sum(combine(row, amounts, product)...))
	}
	return out
}

// mirrored is a square matrix with rows and columns exchanged.
func mirrored(m [][]num.Rat) [][]num.Rat {
	out := make([][]num.Rat, len(m))
	for _, row := range m {
		for j, r := range row {
			out[j] = append(out[j], r)
		}
	}
	return out
}

// corner is the part of a matrix that its first k rows and columns are.
func corner(m [][]num.Rat, k int) [][]num.Rat {
	var out [][]num.Rat
	for _, row := range m[:k] {
		out = append(out, row[:k])
	}
	return out
}

// areShort reports whether no numerator and no denominator has more digits than that.
func areShort(list []num.Rat, digits int) bool {
	for _, r := range list {
		top, low := r.Parts()
		if len(strings.TrimPrefix(top, "-")) > digits || len(low) > digits {
			return false
		}
	}
	return true
}

// areAmounts reports whether no fraction is below 0.
func areAmounts(list []num.Rat) bool {
	for _, r := range list {
		if r.Sign() < 0 {
			return false
		}
	}
	return true
}
