package sha2

import "math/bits"

// round: of the words a to h; big0 is S0(a), big1 S1(e), and more K + W. All
// words are copied along by one place; h, which drops out, lives on in t.
func round[W uint32 | uint64](v *[8]W, big0, big1, more W) {
	a, b, c, e, f, g, h := v[0], v[1], v[2], v[4], v[5], v[6], v[7]
	t := h + big1 + (e&f | ^e&g) + more
	u := big0 + (a&b | a&c | b&c)
	copy(v[1:], v[:7])
	v[4] += t
	v[0] = t + u
}

// narrow: the words behind a block, reckoned with 32 bits.
func narrow(before [8]uint64, block []byte) [8]uint64 {
	var v [8]uint32
	for i, x := range before {
		v[i] = uint32(x)
	}
	for i, w := range schedule32(block) {
		a, e := v[0], v[4]
		big0 := right32(a, 2) ^ right32(a, 13) ^ right32(a, 22)
		big1 := right32(e, 6) ^ right32(e, 11) ^ right32(e, 25)
		round(&v, big0, big1, uint32(cubeRoots[i]>>32)+w)
	}
	for i, x := range v {
		before[i] = uint64(uint32(before[i]) + x)
	}
	return before
}

// schedule32: the words W of a block, its first 64 bytes.
func schedule32(block []byte) [64]uint32 {
	var w [64]uint32
	for i := range 16 {
		b := block[4*i : 4*i+4]
		w[i] = uint32(b[0])<<24 | uint32(b[1])<<16 | uint32(b[2])<<8 | uint32(b[3])
	}
	for i := 16; i < len(w); i++ {
		x, y := w[i-15], w[i-2]
		s0 := right32(x, 7) ^ right32(x, 18) ^ x>>3
		s1 := right32(y, 17) ^ right32(y, 19) ^ y>>10
		w[i] = w[i-16] + s0 + w[i-7] + s1
	}
	return w
}

// right32: x turned by n bits to the right.
func right32(x uint32, n int) uint32 { return bits.RotateLeft32(x, -n) }

// wide: the words behind a block, reckoned with 64 bits.
func wide(before [8]uint64, block []byte) [8]uint64 {
	v := before
	for i, w := range schedule64(block) {
		a, e := v[0], v[4]
		big0 := right64(a, 28) ^ right64(a, 34) ^ right64(a, 39)
		big1 := right64(e, 14) ^ right64(e, 18) ^ right64(e, 41)
		round(&v, big0, big1, cubeRoots[i]+w)
	}
	for i, x := range v {
		before[i] += x
	}
	return before
}

// schedule64: the words W of a block, its 128 bytes.
func schedule64(block []byte) [80]uint64 {
	var w [80]uint64
	for i := range 16 {
		b := block[8*i : 8*i+8]
		w[i] = uint64(b[0])<<56 | uint64(b[1])<<48 | uint64(b[2])<<40 | uint64(b[3])<<32 |
			uint64(b[4])<<24 | uint64(b[5])<<16 | uint64(b[6])<<8 | uint64(b[7])
	}
	for i := 16; i < len(w); i++ {
		x, y := w[i-15], w[i-2]
		s0 := right64(x, 1) ^ right64(x, 8) ^ x>>7
		s1 := right64(y, 19) ^ right64(y, 61) ^ y>>6
		w[i] = w[i-16] + s0 + w[i-7] + s1
	}
	return w
}

// right64: x turned by n bits to the right.
func right64(x uint64, n int) uint64 { return bits.RotateLeft64(x, -n) }
