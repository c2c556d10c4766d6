package weier

import (
	"cartouche/api"
	"cartouche/mod"
	"cartouche/words"
)

// bits is how many a number has.
const bits = 256

// prime is 2^256 - 2^224 + 2^192 + 2^96 - 1, order the base's, and curveB the
// curve's number b.
var (
	prime  = api.Num{1<<64 - 1, 1<<32 - 1, 0, 0xFFFFFFFF00000001}
	order  = api.Num{0xF3B9CAC2FC632551, 0xBCE6FAADA7179E84, 1<<64 - 1, 0xFFFFFFFF00000000}
	curveB = api.Num{0x3BCE3C3E27D2604B, 0x651D06B0CC53B0F6, 0xB3EBBD55769886BC, 0x5AC635D8AA3A93E7}
)

// base is the point of which all keys are made.
var base = Point{
	X: api.Num{0xF4A13945D898C296, 0x77037D812DEB33A0, 0xF8BCE6E563A440F2, 0x6B17D1F2E12C4247},
	Y: api.Num{0xCBB6406837BF51F5, 0x2BCE33576B315ECE, 0x8EE7EB4A7C0F9E16, 0x4FE342E2FE1A7F9B},
}

// A curve reckons with its points modulo the prime.
type curve struct{ field *mod.Mod }

// A ratio is the point (x/z, y/z), so that no sum has to divide; the one at
// infinity has a z of 0.
type ratio struct{ x, y, z api.Num }

func newCurve() curve {
	// The prime is odd and above 1.
	field, _ := mod.New(prime)
	return curve{field}
}

// fits: is y^2 = x^3 - 3x + b?
func (c curve) fits(x, y api.Num) bool {
	f := c.field
	right := f.Add(f.Mul(x, f.Sub(f.Mul(x, x), api.Num{3})), curveB)
	return f.Mul(y, y) == right
}

// infinity: of which sums begin.
func infinity() ratio { return ratio{y: api.Num{1}} }

// opened: a point as a ratio.
func opened(a Point) ratio {
	if a.None {
		return infinity()
	}
	return ratio{a.X, a.Y, api.Num{1}}
}

// closed: back.
func (c curve) closed(p ratio) Point {
	if p.z == (api.Num{}) {
		return Point{None: true}
	}
	under := c.field.Inv(p.z)
	return Point{X: c.field.Mul(p.x, under), Y: c.field.Mul(p.y, under)}
}

// sum: of any two points, by the one formula of Renes, Costello and Batina
// (2016). As the order is odd, it is never 0 in all three numbers: it holds of a
// point and itself, its mirror, or the one at infinity, as of any others.
func (c curve) sum(p, q ratio) ratio {
	f := c.field
	xx, yy, zz := f.Mul(p.x, q.x), f.Mul(p.y, q.y), f.Mul(p.z, q.z)
	xy := f.Add(f.Mul(p.x, q.y), f.Mul(p.y, q.x))
	xz := f.Add(f.Mul(p.x, q.z), f.Mul(p.z, q.x))
	yz := f.Add(f.Mul(p.y, q.z), f.Mul(p.z, q.y))
	rise := c.thrice(f.Sub(xx, zz))
	shift := c.thrice(f.Sub(f.Mul(curveB, zz), xz))
	cross := c.thrice(f.Sub(f.Mul(curveB, xz), f.Add(xx, c.thrice(zz))))
	minus, plus := f.Sub(yy, shift), f.Add(yy, shift)
	return ratio{
		f.Sub(f.Mul(xy, minus), f.Mul(yz, cross)),
		f.Add(f.Mul(plus, minus), f.Mul(rise, cross)),
		f.Add(f.Mul(yz, plus), f.Mul(xy, rise)),
	}
}

func (c curve) thrice(a api.Num) api.Num { return c.field.Add(c.field.Add(a, a), a) }

// product: n times a point by itself. Every bit costs the same, so that the time
// doesn't tell it.
func (c curve) product(n api.Num, p ratio) ratio {
	all := infinity()
	for i := range bits {
		all = c.sum(all, all)
		all = pick(words.Bit(n, bits-1-i), c.sum(all, p), all)
	}
	return all
}

// pick: p, if the bit is 1; else q. No branch hangs on it.
func pick(bit uint64, p, q ratio) ratio {
	return ratio{words.Pick(bit, p.x, q.x), words.Pick(bit, p.y, q.y), words.Pick(bit, p.z, q.z)}
}
