package num

import (
	"cmp"
	"strconv"
)

// A limb holds nine decimal digits: the product of two limbs fits into 64 bits, and limbs become strings without a division of the whole number.
const (
	limbDigits = 9
	base       = 1_000_000_000
)

// natural is a number of at least 0: its limbs, the lowest one first, without zeros at the top (0 is nil).
type natural []uint32

// cut drops the zeros at the top. The capacity ends where the number ends, so that nothing that is appended to it can be written over limbs of another one.
func (n natural) cut() natural {
	size := len(n)
	for size > 0 && n[size-1] == 0 {
		size--
	}
	if size == 0 {
		return nil
	}
	return n[:size:size]
}

// naturalOf is u as a natural.
func naturalOf(u uint64) natural {
	return natural{uint32(u % base), uint32(u / base % base), uint32(u / base / base)}.cut()
}

// readNatural is the number that a string of decimal digits writes.
func readNatural(digits string) natural {
	out := make(natural, 0, len(digits)/limbDigits+1)
	for end := len(digits); end > 0; end -= limbDigits {
		limb := uint32(0)
		for _, c := range []byte(digits[max(0, end-limbDigits):end]) {
			limb = limb*10 + uint32(c-'0')
		}
		out = append(out, limb)
	}
	return out.cut()
}

func (n natural) clone() natural {
	return append(natural(nil), n...).cut()
}

func (n natural) isOne() bool {
	return len(n) == 1 && n[0] == 1
}

// digits is the number of decimal digits (1 for 0).
func (n natural) digits() int {
	if len(n) == 0 {
		return 1
	}
	return (len(n)-1)*limbDigits + limbLength(n[len(n)-1])
}

// limbLength is the number of decimal digits of a limb (1 for 0).
func limbLength(limb uint32) int {
	length := 1
	for limb >= 10 {
		limb /= 10
		length++
	}
	return length
}

func (n natural) String() string {
	if len(n) == 0 {
		return "0"
	}
	out := make([]byte, 0, len(n)*limbDigits)
	out = strconv.AppendUint(out, uint64(n[len(n)-1]), 10)
	for i := len(n) - 2; i >= 0; i-- {
		for range limbDigits - limbLength(n[i]) {
			out = append(out, '0')
		}
		out = strconv.AppendUint(out, uint64(n[i]), 10)
	}
	return string(out)
}

// compare returns -1, 0 or 1.
func compare(x, y natural) int {
	if len(x) != len(y) {
		return cmp.Compare(len(x), len(y))
	}
	for i := len(x) - 1; i >= 0; i-- {
		if x[i] != y[i] {
			return cmp.Compare(x[i], y[i])
		}
	}
	return 0
}

func sum(x, y natural) natural {
	if len(x) < len(y) {
		x, y = y, x
	}
	out := make(natural, len(x)+1)
	carry := uint32(0)
	for i, limb := range x {
		limb += carry
		if i < len(y) {
			limb += y[i]
		}
		carry = 0
		if limb >= base {
			limb -= base
			carry = 1
		}
		out[i] = limb
	}
	out[len(x)] = carry
	return out.cut()
}

// difference is x less y, where y is at most x.
func difference(x, y natural) natural {
	out := make(natural, len(x))
	borrow := uint32(0)
	for i, limb := range x {
		take := borrow
		if i < len(y) {
			take += y[i]
		}
		borrow = 0
		if limb < take {
			limb += base
			borrow = 1
		}
		out[i] = limb - take
	}
	return out.cut()
}

func product(x, y natural) natural {
	if len(x) == 0 || len(y) == 0 {
		return nil
	}
	out := make(natural, len(x)+len(y))
	for i, u := range x {
		if u == 0 {
			continue
		}
		part := out[i : i+len(y)+1]
		carry := uint64(0)
		for j, v := range y {
			t := uint64(u)*uint64(v) + uint64(part[j]) + carry
			part[j] = uint32(t % base)
			carry = t / base
		}
		part[len(y)] = uint32(carry)
	}
	return out.cut()
}
