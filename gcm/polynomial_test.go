package gcm

import "testing"

// power: x to the power of i, below 128.
func power(i int) polynomial {
	var b [16]byte
	b[i/8] = 0x80 >> (i % 8)
	return ofBlock(b)
}

// powers: the sum of those powers of x.
func powers(all ...int) polynomial {
	var sum polynomial
	for _, i := range all {
		sum = sum.plus(power(i))
	}
	return sum
}

func TestPowers(t *testing.T) {
	if p := powers(0, 1, 2, 7).block(); p != [16]byte{0xE1} {
		t.Errorf("x^128 is %X", p)
	}
	if p := power(127).block(); p != [16]byte{15: 1} {
		t.Errorf("x^127 is %X", p)
	}
	for i := range 127 {
		if p := power(i).timesX(); p != power(i+1) {
			t.Errorf("x^%d times x is %X", i, p.block())
		}
	}
	if p := power(127).timesX(); p != powers(0, 1, 2, 7) {
		t.Errorf("x^127 times x is %X", p.block())
	}
}

// The products of powers, by the chapter's modulus: x^(128+k) is x^k times x^128,
// and above x^248 x^(k+7) is beyond once more.
func TestProductsOfPowers(t *testing.T) {
	for i := range 128 {
		for j := range 128 {
			var want polynomial
			if k := i + j - 128; k < 0 {
				want = power(i + j)
			} else {
				for _, more := range []int{0, 1, 2, 7} {
					if k+more < 128 {
						want = want.plus(power(k + more))
					} else {
						n := k + more - 128
						want = want.plus(powers(n, n+1, n+2, n+7))
					}
				}
			}
			if p := power(i).times(power(j)); p != want {
				t.Fatalf("x^%d times x^%d is %X, not %X", i, j, p.block(), want.block())
			}
		}
	}
}

func TestBlockThereAndBack(t *testing.T) {
	for i := range 16 {
		for x := range 256 {
			b := [16]byte{0: 0x35, 7: 0xC1, 8: 0x02, 15: 0x99}
			b[i] = byte(x)
			if got := ofBlock(b).block(); got != b {
				t.Fatalf("%X comes back as %X", b, got)
			}
		}
	}
}

// Lengths up to the promises' bound take more than 32 bits, told in bits.
func TestLengths(t *testing.T) {
	for _, c := range []struct {
		along, sealed int
		want          [16]byte
	}{
		{0, 0, [16]byte{}},
		{1, 2, [16]byte{7: 8, 15: 16}},
		{31, 32, [16]byte{7: 0xF8, 14: 1}},
		{1 << 29, 0, [16]byte{3: 1}},
		{0, 1 << 29, [16]byte{11: 1}},
		{1<<29 - 1, 1<<29 - 1, [16]byte{4: 0xFF, 5: 0xFF, 6: 0xFF, 7: 0xF8, 12: 0xFF, 13: 0xFF, 14: 0xFF, 15: 0xF8}},
		{1<<31 - 1, 1 << 30, [16]byte{3: 3, 4: 0xFF, 5: 0xFF, 6: 0xFF, 7: 0xF8, 11: 2}},
	} {
		if got := lengths(c.along, c.sealed).block(); got != c.want {
			t.Errorf("%d and %d bytes: %X, not %X", c.along, c.sealed, got, c.want)
		}
	}
}

// The number stands in the last four bytes, the highest first, and leaves the
// nonce alone, whose last byte is full.
func TestCounter(t *testing.T) {
	nonce := []byte{1, 2, 3, 4, 5, 6, 7, 8, 9, 10, 11, 0xFF}
	for _, c := range []struct {
		number uint32
		want   [4]byte
	}{
		{0, [4]byte{}},
		{tagCounter, [4]byte{3: 1}},
		{textCounter, [4]byte{3: 2}},
		{0xFF, [4]byte{3: 0xFF}},
		{0x100, [4]byte{2: 1}},
		{0xFFFF, [4]byte{2: 0xFF, 3: 0xFF}},
		{0x10000, [4]byte{1: 1}},
		{0x1000000, [4]byte{1, 0, 0, 0}},
		{0x12345678, [4]byte{0x12, 0x34, 0x56, 0x78}},
		{0xFFFFFFFF, [4]byte{0xFF, 0xFF, 0xFF, 0xFF}},
	} {
		got := counter(nonce, c.number)
		if [12]byte(got[:12]) != [12]byte(nonce) || [4]byte(got[12:]) != c.want {
			t.Errorf("%d: %X", c.number, got)
		}
	}
}
