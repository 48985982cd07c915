package bid

import "iter"

// bundle is a set of items, as bits.
type bundle int

// allItems is the bundle of all of m items.
func allItems(m int) bundle {
	return 1<<m - 1
}

func (b bundle) has(item int) bool {
	return b>>item&1 == 1
}

// within gives the bundles within a bundle, rising: the empty one first, and it itself last.
func (b bundle) within() iter.Seq[bundle] {
	return func(yield func(bundle) bool) {
		for part := bundle(0); yield(part) && part != b; {
			part = (part - b) & b // counts up in the bits of b alone
		}
	}
}

// choice is a bundle that someone could take, and what would be gained by that.
type choice struct {
	worth  int64
	bundle bundle
}

// sum adds up any number of numbers.
func sum(parts ...int64) int64 {
	var out int64
	for _, n := range parts {
		out += n
	}
	return out
}

// areFrom0 reports whether no number is below 0 or above most.
func areFrom0(list []int64, most int64) bool {
	for _, n := range list {
		if n < 0 || n > most {
			return false
		}
	}
	return true
}
