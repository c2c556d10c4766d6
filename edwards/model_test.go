package edwards_test

import (
	"bytes"
	"crypto/sha512"
	"math/big"
	"slices"
	"testing"

	"cartouche/api"
)

// The chapter's words, in whole numbers: sums with their divisions, and of the
// base no more than its y.

func prime() *big.Int {
	p := new(big.Int).Lsh(big.NewInt(1), 255)
	return p.Sub(p, big.NewInt(19))
}

// order: L.
func order() *big.Int {
	more, _ := new(big.Int).SetString("27742317777372353535851937790883648493", 10)
	return more.Add(more, new(big.Int).Lsh(big.NewInt(1), 252))
}

// ratio: a/b modulo p.
func ratio(a, b *big.Int) *big.Int {
	p := prime()
	n := new(big.Int).ModInverse(b, p)
	return n.Mul(n, a).Mod(n, p)
}

// curveNumber: d.
func curveNumber() *big.Int { return ratio(big.NewInt(-121665), big.NewInt(121666)) }

// product: of all of them, modulo p.
func product(l ...*big.Int) *big.Int {
	n, p := big.NewInt(1), prime()
	for _, x := range l {
		n.Mul(n, x).Mod(n, p)
	}
	return n
}

// A point of the curve.
type point struct{ x, y *big.Int }

func nothing() point { return point{new(big.Int), big.NewInt(1)} }

// onCurve: is y^2 - x^2 = 1 + d x^2 y^2?
func onCurve(a point) bool {
	left := new(big.Int).Sub(product(a.y, a.y), product(a.x, a.x))
	left.Sub(left, big.NewInt(1)).Sub(left, product(curveNumber(), a.x, a.x, a.y, a.y))
	return left.Mod(left, prime()).Sign() == 0
}

func sum(a, b point) point {
	one, more := big.NewInt(1), product(curveNumber(), a.x, b.x, a.y, b.y)
	x := new(big.Int).Add(product(a.x, b.y), product(b.x, a.y))
	y := new(big.Int).Add(product(a.y, b.y), product(a.x, b.x))
	return point{ratio(x, new(big.Int).Add(one, more)), ratio(y, new(big.Int).Sub(one, more))}
}

// times: n times a by itself.
func times(n *big.Int, a point) point {
	all := nothing()
	for i := n.BitLen() - 1; i >= 0; i-- {
		all = sum(all, all)
		if n.Bit(i) == 1 {
			all = sum(all, a)
		}
	}
	return all
}

func negative(a point) point {
	x := new(big.Int).Neg(a.x)
	return point{x.Mod(x, prime()), a.y}
}

// fitting: both x of the points with that y, the even one first; nil, if there
// are none. It is the same one twice, if that is 0.
func fitting(y *big.Int) []*big.Int {
	over := new(big.Int).Sub(product(y, y), big.NewInt(1))
	under := new(big.Int).Add(product(curveNumber(), y, y), big.NewInt(1))
	x := new(big.Int).ModSqrt(ratio(over, under), prime())
	if x == nil {
		return nil
	}
	l := []*big.Int{x, negative(point{x, y}).x}
	if x.Bit(0) == 1 {
		slices.Reverse(l)
	}
	return l
}

// base: B.
func base() point {
	y := ratio(big.NewInt(4), big.NewInt(5))
	return point{fitting(y)[0], y}
}

// little: the 32 bytes of a number, the lowest first.
func little(n *big.Int) []byte {
	b := n.FillBytes(make([]byte, 32))
	slices.Reverse(b)
	return b
}

// wide: the number of bytes, the lowest first.
func wide(b []byte) *big.Int {
	b = bytes.Clone(b)
	slices.Reverse(b)
	return new(big.Int).SetBytes(b)
}

// written: a point's bytes.
func written(a point) []byte {
	b := little(a.y)
	b[31] |= byte(a.x.Bit(0)) << 7
	return b
}

// read: the point of 32 bytes; false, if they are no point's.
func read(b []byte) (point, bool) {
	y := wide(b)
	odd := y.Bit(255)
	y.SetBit(y, 255, 0)
	if y.Cmp(prime()) >= 0 {
		return point{}, false
	}
	l := fitting(y)
	if l == nil || l[0].Sign() == 0 && odd == 1 {
		return point{}, false
	}
	return point{l[odd], y}, true
}

// hashed: the hash of all parts as a number, not yet modulo L.
func hashed(parts ...[]byte) *big.Int {
	h := sha512.Sum512(bytes.Join(parts, nil))
	return wide(h[:])
}

// modulo: n modulo L.
func modulo(n *big.Int) *big.Int { return new(big.Int).Mod(n, order()) }

// opened: a seed's number, each bit by the words of layer 9, and its prefix.
func opened(seed []byte) (*big.Int, []byte) {
	h := sha512.Sum512(seed)
	n := new(big.Int)
	for i := 3; i < 254; i++ {
		n.SetBit(n, i, uint(h[i/8]>>(i%8)&1))
	}
	return n.SetBit(n, 254, 1), h[32:]
}

// signed: a seed's key, and what it signs.
func signed(seed, msg []byte) (pub, sig []byte) {
	s, prefix := opened(seed)
	pub = written(times(s, base()))
	r := modulo(hashed(prefix, msg))
	first := written(times(r, base()))
	return pub, closed(r, s, first, pub, msg)
}

// closed: a signature of which R's bytes are there: they, and r + k s modulo L.
func closed(r, s *big.Int, first, pub, msg []byte) []byte {
	last := new(big.Int).Mul(modulo(hashed(first, pub, msg)), s)
	return append(bytes.Clone(first), little(modulo(last.Add(last, r)))...)
}

// verified: what is answered of 32 bytes and 64.
func verified(pub, msg, sig []byte) api.Errno {
	key, ok := read(pub)
	last := wide(sig[32:])
	if !ok || last.Cmp(order()) >= 0 {
		return api.ErrSign
	}
	k := modulo(hashed(sig[:32], pub, msg))
	if !bytes.Equal(written(sum(times(last, base()), negative(times(k, key)))), sig[:32]) {
		return api.ErrSign
	}
	return api.OK
}

// eighth: a point that is nothing 8 times, and no fewer, by itself: what is left
// of another one L times.
func eighth() point {
	for y := int64(2); ; y++ {
		l := fitting(big.NewInt(y))
		if l == nil {
			continue
		}
		a := times(order(), point{l[0], big.NewInt(y)})
		if times(big.NewInt(4), a).y.Cmp(big.NewInt(1)) != 0 {
			return a
		}
	}
}

// small: the eight points whose orders divide 8; point i is i times eighth.
func small() []point {
	l := []point{nothing()}
	for a := eighth(); len(l) < 8; {
		l = append(l, sum(l[len(l)-1], a))
	}
	return l
}

// What the other tests hold the program against keeps the chapter's words itself.
func TestModel(t *testing.T) {
	b := base()
	if !onCurve(b) || b.x.Bit(0) != 0 || !bytes.Equal(written(b), append([]byte{0x58}, bytes.Repeat([]byte{0x66}, 31)...)) {
		t.Error("the base is", b)
	}
	if !bytes.Equal(written(times(order(), b)), written(nothing())) {
		t.Error("the base isn't of order L")
	}
	seen := map[string]bool{}
	for i, a := range small() {
		if !onCurve(a) || !bytes.Equal(written(times(big.NewInt(8), a)), written(nothing())) {
			t.Error("small point", i, "is", a)
		}
		seen[string(written(a))] = true
	}
	if len(seen) != 8 {
		t.Error(len(seen), "small points")
	}
}
