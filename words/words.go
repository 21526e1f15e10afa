// Package words is layer 1: bits of words: see shared/doc/01-words.md.
package words

import "buttress/api"

const wordBits = 64

// halves are the widths by which a word's highest bit is closed in on.
var halves = [6]uint{32, 16, 8, 4, 2, 1}

// Mask is the word whose n lowest bits are 1.
func Mask(n int) (uint64, api.Errno) {
	if n < 0 || n > wordBits {
		return 0, api.ErrArg
	}
	return ones(n), api.OK
}

// Field is the number that the n bits of v from bit at on are.
func Field(v uint64, at, n int) (uint64, api.Errno) {
	if !within(at, n) {
		return 0, api.ErrArg
	}
	return v >> uint(at) & ones(n), api.OK
}

// With is v with x in its n bits from bit at on.
func With(v uint64, at, n int, x uint64) (uint64, api.Errno) {
	if !within(at, n) {
		return 0, api.ErrArg
	}
	if x > ones(n) {
		return 0, api.ErrBig
	}
	return v&^(ones(n)<<uint(at)) | x<<uint(at), api.OK
}

// Up is the least multiple of 2 to the power of bits that is v or more.
func Up(v uint64, bits int) (uint64, api.Errno) {
	if bits < 0 || bits >= wordBits {
		return 0, api.ErrArg
	}
	low := ones(bits)
	// ^low is the greatest multiple that a word holds; up to it the sum below can't wrap round.
	if v > ^low {
		return 0, api.ErrBig
	}
	return (v + low) &^ low, api.OK
}

// Set is b with bit n as is says.
func Set(b api.Bits, n int, is bool) (api.Bits, api.Errno) {
	if !numbered(n) {
		return api.Bits{}, api.ErrArg
	}
	if is {
		b[n/wordBits] |= bit(n)
	} else {
		b[n/wordBits] &^= bit(n)
	}
	return b, api.OK
}

// Has tells whether bit n of b is 1.
func Has(b api.Bits, n int) bool {
	return numbered(n) && b[n/wordBits]&bit(n) != 0
}

// Top is the greatest number of a bit of b that is 1, or -1.
func Top(b api.Bits) int {
	for i := range len(b) {
		at := len(b) - 1 - i
		if b[at] != 0 {
			return at*wordBits + highest(b[at])
		}
	}
	return -1
}

// ones leans on Go's shift by 64, which leaves 0, from which 1 less is all bits.
func ones(n int) uint64 {
	return uint64(1)<<uint(n) - 1
}

// within takes a difference, not the sum, which might wrap round.
func within(at, n int) bool {
	return at >= 0 && n >= 0 && n <= wordBits-at
}

func numbered(n int) bool {
	return n >= 0 && n < api.Prios
}

func bit(n int) uint64 {
	return uint64(1) << uint(n%wordBits)
}

// highest is asked of words that are not 0 alone.
func highest(v uint64) int {
	at := 0
	for i := range len(halves) {
		if rest := v >> halves[i]; rest != 0 {
			v = rest
			at += int(halves[i])
		}
	}
	return at
}
