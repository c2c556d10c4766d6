package chacha

import "math/bits"

// pieceLen is how many bytes of a text go into a code at once.
const pieceLen = 16

// What a key's first 16 bytes leave of themselves: no highest four bits of bytes
// 3, 7, 11, 15, no lowest two of bytes 4, 8, 12.
const (
	keptLow  uint64 = 0x0FFFFFFC0FFFFFFF
	keptHigh uint64 = 0x0FFFFFFC0FFFFFFC
)

// A number modulo 2^130 - 5, the lowest 64 bits first. It isn't always the least
// one: products are below 2^130 + 2^129, which is less than twice the modulus.
type number struct{ low, mid, high uint64 }

// A factor is below 2^124, by the bits that a key doesn't keep.
type factor struct{ low, high uint64 }

// code: of a text under a key. No branch and no table hangs on either, so that
// the time it takes tells the text's length alone.
func code(key [32]byte, text []byte) [16]byte {
	r := factor{little(key[0:8]) & keptLow, little(key[8:16]) & keptHigh}
	var h number
	for len(text) > 0 {
		var b [pieceLen + 1]byte
		n := copy(b[:pieceLen], text)
		b[n] = 1
		text = text[n:]
		h = h.plus(number{little(b[0:8]), little(b[8:16]), uint64(b[16])}).times(r)
	}
	return h.least().plus(number{low: little(key[16:24]), mid: little(key[24:32])}).bytes()
}

// little: the number of bytes, the lowest first.
func little(b []byte) uint64 {
	var n uint64
	for i, x := range b {
		n |= uint64(x) << (8 * i)
	}
	return n
}

// bytes: modulo 2^128, the lowest byte first.
func (h number) bytes() [16]byte {
	var b [16]byte
	for i := range 8 {
		b[i] = byte(h.low >> (8 * i))
		b[8+i] = byte(h.mid >> (8 * i))
	}
	return b
}

// plus: the sum, which isn't reduced.
func (h number) plus(g number) number {
	low, carry := bits.Add64(h.low, g.low, 0)
	mid, carry := bits.Add64(h.mid, g.mid, carry)
	return number{low, mid, h.high + g.high + carry}
}

// times: the product, of a number below 2^132. That is below 2^256; what is
// beyond 2^130 in it counts five times: as it stands, four times, and two bits
// lower once.
func (h number) times(r factor) number {
	first, second, third := r.times(h.low), r.times(h.mid), r.times(h.high)
	low := first.low
	mid, carry := bits.Add64(first.mid, second.low, 0)
	high, over := bits.Add64(first.high, second.mid, carry)
	high, more := bits.Add64(high, third.low, 0)
	top := second.high + third.mid + over + more
	rest := number{low, mid, high & 3}
	fourTimes := number{low: high &^ 3, mid: top}
	once := number{low: top<<62 | high>>2, mid: top >> 2}
	return rest.plus(fourTimes).plus(once)
}

// times: the product with 64 bits, which isn't reduced.
func (r factor) times(x uint64) number {
	over, low := bits.Mul64(r.low, x)
	high, mid := bits.Mul64(r.high, x)
	mid, carry := bits.Add64(mid, over, 0)
	return number{low, mid, high + carry}
}

// least: below 2^130 - 5. Where there are as many or more, five more are beyond
// 2^130, and what is not beyond is the rest.
func (h number) least() number {
	more := h.plus(number{low: 5})
	chosen := -(more.high >> 2)
	return number{
		more.low&chosen | h.low&^chosen,
		more.mid&chosen | h.mid&^chosen,
		more.high&3&chosen | h.high&^chosen,
	}
}
