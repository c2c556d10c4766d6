package chacha

import (
	"math/big"
	"testing"
)

// power: of 2.
func power(n uint) *big.Int { return new(big.Int).Lsh(big.NewInt(1), n) }

func modulus() *big.Int { return new(big.Int).Sub(power(130), big.NewInt(5)) }

func (h number) big() *big.Int {
	n := new(big.Int).SetUint64(h.high)
	for _, word := range []uint64{h.mid, h.low} {
		n.Lsh(n, 64)
		n.Add(n, new(big.Int).SetUint64(word))
	}
	return n
}

func ofBig(n *big.Int) number {
	word := func(i uint) uint64 {
		part := new(big.Int).Rsh(n, 64*i)
		return part.And(part, new(big.Int).SetUint64(1<<64-1)).Uint64()
	}
	return number{word(0), word(1), word(2)}
}

// around: numbers near to a power of 2, the power itself among them.
func around(n uint) []*big.Int {
	var all []*big.Int
	for i := int64(-12); i <= 12; i++ {
		all = append(all, new(big.Int).Add(power(n), big.NewInt(i)))
	}
	return all
}

// samples: numbers from 0 to most, at the ends of words, around the modulus, and
// at the ends of their range.
func samples(most *big.Int) []number {
	var all []*big.Int
	for i := range int64(12) {
		all = append(all, big.NewInt(i), new(big.Int).Sub(most, big.NewInt(i)))
	}
	for _, n := range []uint{63, 64, 65, 127, 128, 129, 130, 131} {
		all = append(all, around(n)...)
	}
	var got []number
	for _, n := range all {
		if n.Sign() >= 0 && n.Cmp(most) <= 0 {
			got = append(got, ofBig(n))
		}
	}
	return got
}

// Of a product: what is told is congruent, and below what the sums have room for.
func TestTimes(t *testing.T) {
	most := new(big.Int).Sub(power(132), big.NewInt(1))
	bound := new(big.Int).Add(power(130), power(129))
	factors := []factor{{}, {low: 1}, {low: 2}, {low: 5}, {high: 1}, {keptLow, 0}, {0, keptHigh}, {keptLow, keptHigh}, {0x0123456789ABCDEC & keptLow, 0x0FEDCBA987654320 & keptHigh}}
	for i := range 60 {
		factors = append(factors, factor{low: 1 << i & keptLow, high: 1 << (59 - i) & keptHigh})
	}
	for _, h := range samples(most) {
		for _, r := range factors {
			got := h.times(r).big()
			want := new(big.Int).Mul(h.big(), number{low: r.low, mid: r.high}.big())
			if got.Cmp(bound) >= 0 {
				t.Fatalf("%x times %x is %x, out of its bound", h, r, got)
			}
			if new(big.Int).Mod(got, modulus()).Cmp(want.Mod(want, modulus())) != 0 {
				t.Fatalf("%x times %x is %x, not %x", h, r, got, want)
			}
		}
	}
}

// The least one, of all numbers that a product may be.
func TestLeast(t *testing.T) {
	most := new(big.Int).Add(power(130), power(129))
	for _, h := range samples(most.Sub(most, big.NewInt(1))) {
		want := h.big()
		if got := h.least(); got != ofBig(want.Mod(want, modulus())) {
			t.Errorf("%x is %x, not %x", h, got, want)
		}
	}
}

func TestPlus(t *testing.T) {
	most := new(big.Int).Sub(power(131), big.NewInt(1))
	for _, h := range samples(most) {
		for _, g := range samples(most) {
			if got, want := h.plus(g).big(), new(big.Int).Add(h.big(), g.big()); got.Cmp(want) != 0 {
				t.Fatalf("%x and %x is %x, not %x", h, g, got, want)
			}
		}
	}
}

// What a key keeps, bit by bit, after the chapter's words.
func TestKept(t *testing.T) {
	for i := range 128 {
		var key [32]byte
		key[i/8] = 1 << (i % 8)
		without := i/8%4 == 3 && i%8 >= 4 || i/8%4 == 0 && i/8 > 0 && i%8 < 2
		// Of a text of one byte, 0, h is 256 times r.
		want := power(uint(i) + 8)
		if without {
			want = new(big.Int)
		}
		want.Mod(want, modulus())
		if got := code(key, []byte{0}); got != ofBig(want).bytes() {
			t.Errorf("bit %d: %X, not %x", i, got, want)
		}
	}
}
