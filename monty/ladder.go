package monty

import (
	"cartouche/api"
	"cartouche/mod"
	"cartouche/words"
)

// bits is how many a number below the prime has; those of a secret above them
// are 0.
const bits = 255

// prime is 2^255 - 19.
var prime = api.Num{1<<64 - 19, 1<<64 - 1, 1<<64 - 1, 1<<63 - 1}

// quarter is (486662 + 2)/4, of the curve's number.
const quarter = 121666

// A curve reckons with its points modulo the prime.
type curve struct{ field *mod.Mod }

// A ratio is a point's u as x/z, so that no step has to divide; the point at
// infinity has a z of 0. Nothing is kept of v: two points' u are enough for that
// of their sum, where the u of their difference is known.
type ratio struct{ x, z api.Num }

func newCurve() curve {
	// The prime is odd and above 1.
	field, _ := mod.New(prime)
	return curve{field}
}

// times: the u of n times the point of u. Of each beginning of n's bits, m, low
// is m times that point and high m + 1 times: their difference is the point.
// Every bit costs the same, so that the time doesn't tell it.
func (c curve) times(n, u api.Num) api.Num {
	low, high := ratio{x: api.Num{1}}, ratio{x: u, z: api.Num{1}}
	for i := range bits {
		bit := words.Bit(n, bits-1-i)
		low, high = swapped(bit, low, high)
		low, high = c.doubled(low), c.sum(low, high, u)
		low, high = swapped(bit, low, high)
	}
	// Inv of 0 is 0: so is the u of the point at infinity.
	return c.field.Mul(low.x, c.field.Inv(low.z))
}

// swapped: p and q, the other way round if the bit is 1.
func swapped(bit uint64, p, q ratio) (ratio, ratio) {
	return pick(bit, q, p), pick(bit, p, q)
}

// pick: p, if the bit is 1; else q. No branch hangs on it.
func pick(bit uint64, p, q ratio) ratio {
	return ratio{words.Pick(bit, p.x, q.x), words.Pick(bit, p.z, q.z)}
}

// doubled: twice a point.
func (c curve) doubled(p ratio) ratio {
	f := c.field
	plus, minus := f.Add(p.x, p.z), f.Sub(p.x, p.z)
	plus, minus = f.Mul(plus, plus), f.Mul(minus, minus)
	product := f.Sub(plus, minus) // 4 x z
	scaled := f.Mul(api.Num{quarter}, product)
	return ratio{f.Mul(plus, minus), f.Mul(product, f.Add(minus, scaled))}
}

// sum: of two points whose difference is that of u.
func (c curve) sum(p, q ratio, u api.Num) ratio {
	f := c.field
	one := f.Mul(f.Sub(p.x, p.z), f.Add(q.x, q.z))
	other := f.Mul(f.Add(p.x, p.z), f.Sub(q.x, q.z))
	plus, minus := f.Add(one, other), f.Sub(one, other)
	return ratio{f.Mul(plus, plus), f.Mul(u, f.Mul(minus, minus))}
}
