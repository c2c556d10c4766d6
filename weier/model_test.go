package weier_test

import (
	"bytes"
	"math/big"
	"slices"
	"testing"

	"cartouche/api"
	"cartouche/weier"
)

// The chapter's words, in whole numbers: chords and tangents, with their
// divisions.

// written16: the number of a text in base 16, spaces left out.
func written16(s string) *big.Int {
	n, ok := new(big.Int).SetString(string(bytes.ReplaceAll([]byte(s), []byte(" "), nil)), 16)
	if !ok {
		panic("no number: " + s)
	}
	return n
}

// power: 2 to the power of i.
func power(i uint) *big.Int { return new(big.Int).Lsh(big.NewInt(1), i) }

// prime: p.
func prime() *big.Int {
	p := new(big.Int).Sub(power(256), power(224))
	return p.Add(p, power(192)).Add(p, power(96)).Sub(p, big.NewInt(1))
}

// order: n.
func order() *big.Int {
	return written16("FFFFFFFF 00000000 FFFFFFFF FFFFFFFF BCE6FAAD A7179E84 F3B9CAC2 FC632551")
}

// curveB: b.
func curveB() *big.Int {
	return written16("5AC635D8 AA3A93E7 B3EBBD55 769886BC 651D06B0 CC53B0F6 3BCE3C3E 27D2604B")
}

// A point of the curve; one without an x is that at infinity.
type point struct{ x, y *big.Int }

func base() point {
	return point{
		written16("6B17D1F2 E12C4247 F8BCE6E5 63A440F2 77037D81 2DEB33A0 F4A13945 D898C296"),
		written16("4FE342E2 FE1A7F9B 8EE7EB4A 7C0F9E16 2BCE3357 6B315ECE CBB64068 37BF51F5"),
	}
}

// plus: n and d more.
func plus(n *big.Int, d int64) *big.Int { return new(big.Int).Add(n, big.NewInt(d)) }

// product: of two numbers, modulo p.
func product(a, b *big.Int) *big.Int {
	n := new(big.Int).Mul(a, b)
	return n.Mod(n, prime())
}

// less: a less b, modulo p.
func less(a, b *big.Int) *big.Int {
	n := new(big.Int).Sub(a, b)
	return n.Mod(n, prime())
}

// side: x^3 - 3x + b, modulo p.
func side(x *big.Int) *big.Int {
	n := product(x, plus(product(x, x), -3))
	return n.Add(n, curveB()).Mod(n, prime())
}

// onCurve: of the equation, and numbers below p.
func onCurve(x, y *big.Int) bool {
	return x.Cmp(prime()) < 0 && y.Cmp(prime()) < 0 && product(y, y).Cmp(side(x)) == 0
}

// mirror: what is the one at infinity with a.
func mirror(a point) point {
	if a.x == nil {
		return a
	}
	return point{a.x, less(new(big.Int), a.y)}
}

// sum: by the chord of two points, or the tangent of one.
func sum(a, b point) point {
	if a.x == nil {
		return b
	}
	if b.x == nil {
		return a
	}
	over, under := less(b.y, a.y), less(b.x, a.x)
	if under.Sign() == 0 {
		if over.Sign() != 0 {
			return point{}
		}
		over, under = plus(product(big.NewInt(3), product(a.x, a.x)), -3), product(big.NewInt(2), a.y)
	}
	slope := product(over, under.ModInverse(under, prime()))
	x := less(less(product(slope, slope), a.x), b.x)
	return point{x, less(product(slope, less(a.x, x)), a.y)}
}

// times: n times a by itself.
func times(n *big.Int, a point) point {
	all := point{}
	for i := n.BitLen() - 1; i >= 0; i-- {
		all = sum(all, all)
		if n.Bit(i) == 1 {
			all = sum(all, a)
		}
	}
	return all
}

// of: the point of an x that has one, with the lesser y.
func of(x *big.Int) point {
	y := new(big.Int).ModSqrt(side(x), prime())
	if y == nil {
		panic("no point of " + x.String())
	}
	if other := less(new(big.Int), y); other.Cmp(y) < 0 {
		y = other
	}
	return point{x, y}
}

// flat: points whose y is so small that y + p has 256 bits, too.
func flat() []point {
	return []point{
		{written16("009E78D4EF60D05F750F6636209092BC43CBDD6B47E11A9DE20A9FEB2A50BB96C"), big.NewInt(1)},
		{written16("6916FAC45E568B6B9E2E2ECD611B282E5FCC40A3067D601057F879CE5A8A73CC"), big.NewInt(1)},
		{written16("7FAFB72B9E2F17B87CC216B6785C0BFC860ED577216FD3C8F30A7A8707E613CA"), big.NewInt(4)},
		{written16("D7325D7646CD60D80A92738CEB345F844CFFAF35841022CAB176F692DE8DE1D7"), big.NewInt(5)},
	}
}

// narrow: points whose x is so small that x + p has 256 bits, too; one's is 0.
func narrow() []point {
	var l []point
	for _, x := range []int64{0, 5, 6, 8, 9} {
		l = append(l, of(big.NewInt(x)))
	}
	return l
}

// broad: points whose x is below p, but not below the order.
func broad() []point { return []point{of(plus(prime(), -3)), of(plus(prime(), -4))} }

// steep: points of whose 8 y^3 one word of 64 bits alone isn't 0, each time
// another one: by that a point's double is divided.
func steep() []point {
	return []point{
		{written16("FBFA868DE89F4173D39A433FFA3F5596B0EC1F9F50E7F8F23A65DB7BE07B38D3"), written16("26B75449456DC367B11C4547077B1198973462CDEF79F29FECB22CC75C0CD667")},
		{written16("B6AE9523934C158A1915B79E4622BEB7BBE0453ECA0B7C27D7EA23A49DE488EF"), big.NewInt(1 << 21)},
		{written16("452673573404EF3D5F28D77B0765E7B9C256DA4F296BD274C1E986670087A852"), written16("D742784AD878132627733B465CE991B9EB0D4BFC6E99C51F994CC2CA455DB49E")},
		{written16("0BA9562E318BF6F39DD4FDD49988B8B5F69D105EB7558547935404CD4BDFA9EF"), written16("0975F75164AA061868CB9D32373D61A97F72EAE9A3F329985948ABB693DAE84F")},
	}
}

// samples: points of all kinds, each with its mirror; the first two are that at
// infinity.
func samples() []point {
	half := new(big.Int).Rsh(order(), 1)
	l := []point{{}, base(), times(big.NewInt(2), base()), times(big.NewInt(3), base()), times(half, base())}
	l = slices.Concat(l, narrow(), flat(), broad(), steep())
	for i := range uint64(4) {
		l = append(l, times(wide(some(32, i)), base()))
	}
	var all []point
	for _, a := range l {
		all = append(all, a, mirror(a))
	}
	return all
}

// wide: the number of bytes, the highest first.
func wide(b []byte) *big.Int { return new(big.Int).SetBytes(b) }

// long: a number's 32 bytes.
func long(n *big.Int) []byte { return n.FillBytes(make([]byte, 32)) }

// num: a number as the program has it.
func num(n *big.Int) api.Num {
	var a api.Num
	for i := range a {
		a[i] = new(big.Int).Rsh(n, uint(64*i)).Uint64()
	}
	return a
}

// outside: a point as the program has it.
func outside(a point) weier.Point {
	if a.x == nil {
		return weier.Point{None: true}
	}
	return weier.Point{X: num(a.x), Y: num(a.y)}
}

// bytesOf: 04, x, y, whether they are a point's or not.
func bytesOf(x, y *big.Int) []byte { return joined([]byte{4}, long(x), long(y)) }

// What the other tests hold the program against keeps the chapter's words itself.
func TestModel(t *testing.T) {
	if !prime().ProbablyPrime(20) || !order().ProbablyPrime(20) {
		t.Error("no primes")
	}
	for i, a := range samples() {
		if a.x == nil {
			continue
		}
		if !onCurve(a.x, a.y) || !onCurve(mirror(a).x, mirror(a).y) || sum(a, mirror(a)).x != nil {
			t.Error(i, a, "is no point")
		}
		if times(order(), a).x != nil {
			t.Error(i, a, "isn't of that order")
		}
	}
	for i, a := range steep() {
		cube := num(product(big.NewInt(8), product(a.y, product(a.y, a.y))))
		if cube[i] == 0 || cube[(i+1)%4]|cube[(i+2)%4]|cube[(i+3)%4] != 0 {
			t.Errorf("steep point %d: %X", i, cube)
		}
	}
	if last := times(plus(order(), -1), base()); outside(last) != outside(mirror(base())) {
		t.Error("one less than the order:", last)
	}
	if n := num(power(200)); n != (api.Num{0, 0, 0, 1 << 8}) {
		t.Error("2^200 is", n)
	}
}
