package regex

import (
	"iter"
	"math/bits"
)

// numbers is a set of numbers from 0 on: bit i%64 of word i/64 says whether i is in it. Sets that are calculated with each other have the same length.
type numbers []uint64

// noneBelow is a set without elements that has room for the numbers below n.
func noneBelow(n int) numbers {
	return make(numbers, (n+63)/64)
}

func (s numbers) add(i int) {
	s[i/64] |= 1 << (i % 64)
}

func (s numbers) has(i int) bool {
	return s[i/64]>>(i%64)&1 == 1
}

// include adds all that is in t.
func (s numbers) include(t numbers) {
	for i, word := range t {
		s[i] |= word
	}
}

// exclude removes all that is in t.
func (s numbers) exclude(t numbers) {
	for i, word := range t {
		s[i] &^= word
	}
}

// meets reports whether a number is in both.
func (s numbers) meets(t numbers) bool {
	for i, word := range t {
		if s[i]&word != 0 {
			return true
		}
	}
	return false
}

// within reports whether all that is in s is in t.
func (s numbers) within(t numbers) bool {
	for i, word := range t {
		if s[i]&^word != 0 {
			return false
		}
	}
	return true
}

// all visits the elements, rising.
func (s numbers) all() iter.Seq[int] {
	return func(yield func(int) bool) {
		for i, word := range s {
			for ; word != 0; word &= word - 1 {
				if !yield(i*64 + bits.TrailingZeros64(word)) {
					return
				}
			}
		}
	}
}

// first returns the least element, and whether there is one.
func (s numbers) first() (int, bool) {
	for i := range s.all() {
		return i, true
	}
	return 0, false
}

func (s numbers) count() int {
	out := 0
	for _, word := range s {
		out += bits.OnesCount64(word)
	}
	return out
}

// key is a string that sets of the same length share only if they are equal.
func (s numbers) key() string {
	out := make([]byte, 0, 8*len(s))
	for _, word := range s {
		for shift := 0; shift < 64; shift += 8 {
			out = append(out, byte(word>>shift))
		}
	}
	return string(out)
}
