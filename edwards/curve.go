package edwards

import (
	"cartouche/api"
	"cartouche/mod"
	"cartouche/words"
)

// bits is how many a seed's number has at most; those of others here are fewer.
const bits = 255

// prime is 2^255 - 19, and order that of the base.
var (
	prime = api.Num{1<<64 - 19, 1<<64 - 1, 1<<64 - 1, 1<<63 - 1}
	order = api.Num{0x5812631A5CF5D3ED, 0x14DEF9DEA2F79CD6, 0, 1 << 60}
)

// d is the curve's number, and twiceD twice that.
var (
	d      = api.Num{0x75EB4DCA135978A3, 0x00700A4D4141D8AB, 0x8CC740797779E898, 0x52036CEE2B6FFE73}
	twiceD = api.Num{0xEBD69B9426B2F159, 0x00E0149A8283B156, 0x198E80F2EEF3D130, 0x2406D9DC56DFFCE7}
)

// eighth is (prime + 3)/8: a square to that power is one of its roots, or
// imaginary, which is a root of -1, times by one of them.
var (
	eighth    = api.Num{1<<64 - 2, 1<<64 - 1, 1<<64 - 1, 1<<60 - 1}
	imaginary = api.Num{0xC4EE1B274A0EA0B0, 0x2F431806AD2FE478, 0x2B4D00993DFBD7A7, 0x2B8324804FC1DF0B}
)

// base is the point of which all keys are made.
var base = point{
	x: api.Num{0xC9562D608F25D51A, 0x692CC7609525A7B2, 0xC0A4E231FDD6DC5C, 0x216936D3CD6E53FE},
	y: api.Num{0x6666666666666658, 0x6666666666666666, 0x6666666666666666, 0x6666666666666666},
	z: api.Num{1},
	t: api.Num{0x6DDE8AB3A5B7DDA3, 0x20F09F80775152F5, 0x66EA4E8E64ABE37D, 0x67875F0FD78B7665},
}

// A curve reckons with its points modulo the prime, and with how many times
// they are taken modulo the base's order.
type curve struct{ field, times *mod.Mod }

// A point is (x/z, y/z), so that no sum has to divide; t is x y/z, which spares
// each sum some products.
type point struct{ x, y, z, t api.Num }

func newCurve() curve {
	// Both are odd and above 1.
	field, _ := mod.New(prime)
	times, _ := mod.New(order)
	return curve{field, times}
}

// read: the point whose bytes these are; false: they are no point's.
func (c curve) read(b []byte) (point, bool) {
	y, ok := words.Little(b)
	odd := words.Bit(y, 255)
	y[3] &^= 1 << 63
	if !ok || !words.Less(y, prime) {
		return point{}, false
	}
	x, ok := c.fitting(y)
	if !ok || x == (api.Num{}) && odd == 1 {
		return point{}, false
	}
	x = words.Pick(odd^x[0], c.field.Sub(api.Num{}, x), x)
	return point{x, y, api.Num{1}, c.field.Mul(x, y)}, true
}

// fitting: an x of the points with that y, the other one being as far below 0;
// false: there is none. As -1 is a square and d isn't, 1 + d y^2 is never 0.
func (c curve) fitting(y api.Num) (api.Num, bool) {
	f, one := c.field, api.Num{1}
	yy := f.Mul(y, y)
	xx := f.Mul(f.Sub(yy, one), f.Inv(f.Add(one, f.Mul(d, yy))))
	x := f.Pow(xx, eighth)
	if f.Mul(x, x) != xx {
		x = f.Mul(x, imaginary)
	}
	return x, f.Mul(x, x) == xx
}

// written: a point's bytes.
func (c curve) written(p point) [size]byte {
	under := c.field.Inv(p.z)
	x, y := c.field.Mul(p.x, under), c.field.Mul(p.y, under)
	y[3] |= x[0] << 63
	return words.Turned(y)
}

// negative: what makes nothing with a point.
func (c curve) negative(p point) point {
	f, zero := c.field, api.Num{}
	return point{f.Sub(zero, p.x), p.y, p.z, f.Sub(zero, p.t)}
}

// sum: of any two points. As -1 is a square and d isn't, it never divides by 0:
// it holds of a point and itself, or nothing, as of any others.
func (c curve) sum(p, q point) point {
	f := c.field
	minus := f.Mul(f.Sub(p.y, p.x), f.Sub(q.y, q.x))
	plus := f.Mul(f.Add(p.y, p.x), f.Add(q.y, q.x))
	one := f.Mul(f.Add(p.z, p.z), q.z)
	more := f.Mul(f.Mul(twiceD, p.t), q.t)
	x, underX := f.Sub(plus, minus), f.Add(one, more)
	y, underY := f.Add(plus, minus), f.Sub(one, more)
	return point{f.Mul(x, underY), f.Mul(y, underX), f.Mul(underX, underY), f.Mul(x, y)}
}

// product: n times a point by itself. Every bit costs the same, so that the time
// doesn't tell it.
func (c curve) product(n api.Num, p point) point {
	// Nothing, of which the sums begin.
	all := point{y: api.Num{1}, z: api.Num{1}}
	for i := range bits {
		all = c.sum(all, all)
		all = pick(words.Bit(n, bits-1-i), c.sum(all, p), all)
	}
	return all
}

// pick: p, if the bit is 1; else q. No branch hangs on it.
func pick(bit uint64, p, q point) point {
	return point{
		words.Pick(bit, p.x, q.x), words.Pick(bit, p.y, q.y),
		words.Pick(bit, p.z, q.z), words.Pick(bit, p.t, q.t),
	}
}
