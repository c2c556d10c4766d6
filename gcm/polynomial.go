package gcm

// A polynomial is a block's bits as coefficients: that of x^0 is the highest bit
// of head, that of x^127 the lowest one of tail.
type polynomial struct{ head, tail uint64 }

// reduced is what x^128 comes to: x^7 + x^2 + x + 1.
const reduced uint64 = 0xE1 << 56

// ofBlock: a block as a polynomial.
func ofBlock(b [16]byte) polynomial {
	var p polynomial
	for i := range 8 {
		p.head = p.head<<8 | uint64(b[i])
		p.tail = p.tail<<8 | uint64(b[8+i])
	}
	return p
}

// block: back.
func (p polynomial) block() [16]byte {
	var b [16]byte
	for i := range 8 {
		b[i] = byte(p.head >> (56 - 8*i))
		b[8+i] = byte(p.tail >> (56 - 8*i))
	}
	return b
}

// lengths: the block of two texts' lengths in bits, given in bytes.
func lengths(along, sealed int) polynomial {
	return polynomial{8 * uint64(along), 8 * uint64(sealed)}
}

// plus: the sum.
func (p polynomial) plus(q polynomial) polynomial {
	return polynomial{p.head ^ q.head, p.tail ^ q.tail}
}

// times: the product. Masks choose what is summed up, no branch and no table, so
// that the time it takes doesn't tell what the key is.
func (p polynomial) times(q polynomial) polynomial {
	var sum polynomial
	for _, bits := range [2]uint64{p.head, p.tail} {
		for range 64 {
			chosen := -(bits >> 63)
			sum = sum.plus(polynomial{q.head & chosen, q.tail & chosen})
			bits <<= 1
			q = q.timesX()
		}
	}
	return sum
}

// timesX: each coefficient is that of one power more.
func (p polynomial) timesX() polynomial {
	beyond := -(p.tail & 1)
	return polynomial{p.head>>1 ^ reduced&beyond, p.head<<63 | p.tail>>1}
}

// absorbed: for each block of a text, filled up with zeros, the sum with it,
// times h.
func (p polynomial) absorbed(text []byte, h polynomial) polynomial {
	for len(text) > 0 {
		var b [16]byte
		n := copy(b[:], text)
		text = text[n:]
		p = p.plus(ofBlock(b)).times(h)
	}
	return p
}
