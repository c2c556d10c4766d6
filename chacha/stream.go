package chacha

import "math/bits"

// numbers are what a block is made of, four to a row.
type numbers [16]uint32

// blockLen is how many bytes a block has.
const blockLen = 64

// constants are what the first four numbers say.
const constants = "expand 32-byte k"

// Where the key, the counter and the nonce begin, in bytes; the counter is one
// number.
const (
	keyAt     = 16
	counterAt = 48
	nonceAt   = 52
)

// begun: the numbers of a key and a nonce, with no counter yet.
func begun(key, nonce []byte) numbers {
	var b [blockLen]byte
	copy(b[:keyAt], constants)
	copy(b[keyAt:counterAt], key)
	copy(b[nonceAt:], nonce)
	var x numbers
	for i := range x {
		for j := range 4 {
			x[i] |= uint32(b[4*i+j]) << (8 * j)
		}
	}
	return x
}

// block: of a counter.
func (x numbers) block(counter uint32) [blockLen]byte {
	x[counterAt/4] = counter
	y := x
	for range 10 {
		y = y.columns().slopes()
	}
	var out [blockLen]byte
	for i := range x {
		sum := x[i] + y[i]
		for j := range 4 {
			out[4*i+j] = byte(sum >> (8 * j))
		}
	}
	return out
}

// cover: out becomes the text xor the blocks from a counter on. Twice is not at
// all.
func (x numbers) cover(counter uint32, out, text []byte) {
	var mask [blockLen]byte
	for i, c := range text {
		if i%blockLen == 0 {
			mask = x.block(counter + uint32(i/blockLen))
		}
		out[i] = c ^ mask[i%blockLen]
	}
}

// columns: their quarters.
func (x numbers) columns() numbers {
	for i := range 4 {
		x.quarter(i, 4+i, 8+i, 12+i)
	}
	return x
}

// slopes: their quarters, each row one further than that above.
func (x numbers) slopes() numbers {
	for i := range 4 {
		x.quarter(i, 4+(i+1)%4, 8+(i+2)%4, 12+(i+3)%4)
	}
	return x
}

// quarter: of the four numbers at these places.
func (x *numbers) quarter(a, b, c, d int) {
	x[a], x[b], x[c], x[d] = quarter(x[a], x[b], x[c], x[d])
}

// quarter: of four numbers.
func quarter(a, b, c, d uint32) (uint32, uint32, uint32, uint32) {
	a += b
	d = bits.RotateLeft32(d^a, 16)
	c += d
	b = bits.RotateLeft32(b^c, 12)
	a += b
	d = bits.RotateLeft32(d^a, 8)
	c += d
	b = bits.RotateLeft32(b^c, 7)
	return a, b, c, d
}
