// Package limb is layer 1: see shared/doc/01-limb.md.
package limb

import (
	"cmp"
	"math/bits"

	"cleromancy/api"
)

const (
	words    = 4
	wordBits = 64
	size     = 8 * words // bytes of a number
)

// Add is a sum, and what is carried.
func Add(a, b api.Four) (api.Four, uint64) {
	var sum api.Four
	var carry uint64
	for i := range words {
		sum[i], carry = bits.Add64(a[i], b[i], carry)
	}
	return sum, carry
}

// Sub is a difference, and what is borrowed.
func Sub(a, b api.Four) (api.Four, uint64) {
	var rest api.Four
	var borrow uint64
	for i := range words {
		rest[i], borrow = bits.Sub64(a[i], b[i], borrow)
	}
	return rest, borrow
}

// Mul is a product.
func Mul(a, b api.Four) api.Eight {
	var product api.Eight
	for i, w := range b {
		row, top := MulWord(a, w)
		var carry uint64
		for j := range words {
			product[i+j], carry = bits.Add64(product[i+j], row[j], carry)
		}
		// No row reached this word yet, and the product of a and the words so far ends in it: top has room for the carry.
		product[i+words] = top + carry
	}
	return product
}

// MulWord is a product with a word, and the word above it.
func MulWord(a api.Four, w uint64) (api.Four, uint64) {
	var product api.Four
	var above uint64
	for i := range words {
		high, low := bits.Mul64(a[i], w)
		var carry uint64
		product[i], carry = bits.Add64(low, above, 0)
		// A product of two words is at most 2^128 - 2^65 + 1: its high word has room for the carry.
		above = high + carry
	}
	return product, above
}

// Cmp holds two numbers against each other.
func Cmp(a, b api.Four) int {
	order := 0
	// The highest word that differs decides, and it comes last.
	for i, w := range a {
		if w != b[i] {
			order = cmp.Compare(w, b[i])
		}
	}
	return order
}

// Select is one of two numbers, without a branch.
func Select(c uint64, a, b api.Four) api.Four {
	mask := -(c & 1)
	var one api.Four
	for i, w := range a {
		one[i] = w&mask | b[i]&^mask
	}
	return one
}

// word is 0 where a number has no word: a shift brings noughts from there.
func word(a api.Four, i int) uint64 {
	if i < 0 || i >= words {
		return 0
	}
	return a[i]
}

// Left is a number times a power of two.
func Left(a api.Four, n int) api.Four {
	if n < 0 {
		return a
	}
	whole, part := n/wordBits, n%wordBits
	var out api.Four
	for i := range out {
		out[i] = word(a, i-whole)<<part | word(a, i-whole-1)>>(wordBits-part)
	}
	return out
}

// Right is a number by a power of two.
func Right(a api.Four, n int) api.Four {
	if n < 0 {
		return a
	}
	whole, part := n/wordBits, n%wordBits
	var out api.Four
	for i := range out {
		out[i] = word(a, i+whole)>>part | word(a, i+whole+1)<<(wordBits-part)
	}
	return out
}

// Bit is a bit.
func Bit(a api.Four, i int) uint64 {
	if i < 0 {
		return 0
	}
	return word(a, i/wordBits) >> (i % wordBits) & 1
}

// Bits is how many bits a number has.
func Bits(a api.Four) int {
	n := 0
	// The highest word that isn't nought decides, and it comes last.
	for i, w := range a {
		if w != 0 {
			n = i*wordBits + bits.Len64(w)
		}
	}
	return n
}

// Of is the number of bytes.
func Of(b []byte, big bool) (api.Four, api.Errno) {
	var a api.Four
	if len(b) != size {
		return a, api.ErrArg
	}
	for i := range a {
		for k := range 8 {
			a[i] |= uint64(b[place(8*i+k, big)]) << (8 * k)
		}
	}
	return a, api.OK
}

// Bytes is a number's bytes.
func Bytes(a api.Four, big bool) []byte {
	b := make([]byte, size)
	for i, w := range a {
		for k := range 8 {
			b[place(8*i+k, big)] = byte(w >> (8 * k))
		}
	}
	return b
}

// place is where the i-th byte from the lowest on stands.
func place(i int, big bool) int {
	if big {
		return size - 1 - i
	}
	return i
}
