package aes

import (
	"math/bits"
	"testing"
)

// product: of two bytes as polynomials, modulo 11B.
func product(a, b byte) byte {
	var p uint
	for i := range 8 {
		if b>>i&1 == 1 {
			p ^= uint(a) << i
		}
	}
	for i := 14; i >= 8; i-- {
		if p>>i&1 == 1 {
			p ^= 0x11B << (i - 8)
		}
	}
	return byte(p)
}

// inverse: what times a is 1; 0 of 0.
func inverse(a byte) byte {
	for x := range 256 {
		if product(a, byte(x)) == 1 {
			return byte(x)
		}
	}
	return 0
}

// The table is held against the chapter's words, byte by byte.
func TestSubstitution(t *testing.T) {
	for x := range 256 {
		inv := inverse(byte(x))
		want := inv ^ 0x63
		for n := 1; n <= 4; n++ {
			want ^= bits.RotateLeft8(inv, n)
		}
		if got := substitution(byte(x)); got != want {
			t.Errorf("of %02X: %02X, not %02X", x, got, want)
		}
	}
}

func TestDoubled(t *testing.T) {
	for x := range 256 {
		if got, want := doubled(byte(x)), product(byte(x), 2); got != want {
			t.Errorf("%02X: %02X, not %02X", x, got, want)
		}
	}
}
