// Package words is layer 1: see shared/doc/01-words.md.
package words

import (
	"math/bits"

	"cartouche/api"
)

// size is how many bytes a number has.
const size = 32

// Big: the number of 32 bytes, the highest first; false: there aren't 32.
func Big(b []byte) (api.Num, bool) {
	if len(b) != size {
		return api.Num{}, false
	}
	var n api.Num
	for i, x := range b {
		n[3-i/8] |= uint64(x) << (56 - i%8*8)
	}
	return n, true
}

// Little: of 32 bytes, the lowest first; false: there aren't 32.
func Little(b []byte) (api.Num, bool) {
	if len(b) != size {
		return api.Num{}, false
	}
	var n api.Num
	for i, x := range b {
		n[i/8] |= uint64(x) << (i % 8 * 8)
	}
	return n, true
}

// Bytes: a number's, the highest first.
func Bytes(n api.Num) [32]byte {
	var b [size]byte
	for i := range b {
		b[i] = byte(n[3-i/8] >> (56 - i%8*8))
	}
	return b
}

// Turned: a number's bytes, the lowest first.
func Turned(n api.Num) [32]byte {
	var b [size]byte
	for i := range b {
		b[i] = byte(n[i/8] >> (i % 8 * 8))
	}
	return b
}

// Add: the sum's lowest 256 bits, and what goes beyond them.
func Add(a, b api.Num) (api.Num, uint64) {
	var sum api.Num
	var carry uint64
	for i := range sum {
		sum[i], carry = bits.Add64(a[i], b[i], carry)
	}
	return sum, carry
}

// Sub: the difference; 1, if it is below 0 (then 2^256 more).
func Sub(a, b api.Num) (api.Num, uint64) {
	var rest api.Num
	var borrow uint64
	for i := range rest {
		rest[i], borrow = bits.Sub64(a[i], b[i], borrow)
	}
	return rest, borrow
}

// Less: is a below b? It reckons the whole difference: where words are held
// against each other till two differ, the time tells how much of them is alike.
func Less(a, b api.Num) bool {
	_, borrow := Sub(a, b)
	return borrow == 1
}

// Bit: bit i; 0 of those that aren't 0 to 255.
func Bit(n api.Num, i int) uint64 {
	if i < 0 || i > 255 {
		return 0
	}
	return n[i/64] >> (i % 64) & 1
}

// Pick: a, if x's lowest bit is 1; else b. Both are read at any x: a branch
// would show by its time a bit that may belong to a secret.
func Pick(x uint64, a, b api.Num) api.Num {
	mask := -(x & 1)
	var n api.Num
	for i := range n {
		n[i] = b[i] ^ mask&(a[i]^b[i])
	}
	return n
}
