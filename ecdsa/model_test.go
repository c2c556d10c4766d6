package ecdsa_test

import (
	"bytes"
	"crypto/hmac"
	"crypto/sha256"
	"math/big"
	"slices"
	"strings"
	"testing"

	"cartouche/api"
)

// The chapter's words, in whole numbers, with Go's hashes.

// some: n bytes with no pattern to them, others for another seed.
func some(n int, seed uint64) []byte {
	b := make([]byte, n)
	state := seed*0x9E3779B97F4A7C15 + 1301
	for i := range b {
		state = state*6364136223846793005 + 1442695040888963407
		b[i] = byte(state >> 56)
	}
	return b
}

// joined: new bytes, one behind the other.
func joined(parts ...[]byte) []byte { return bytes.Join(parts, nil) }

// turned: bytes with one bit turned.
func turned(b []byte, bit int) []byte {
	b = bytes.Clone(b)
	b[bit/8] ^= 1 << (bit % 8)
	return b
}

// written16: the number of a text in base 16, spaces left out.
func written16(s string) *big.Int {
	n, ok := new(big.Int).SetString(strings.ReplaceAll(s, " ", ""), 16)
	if !ok {
		panic("no number: " + s)
	}
	return n
}

// power: 2 to the power of i.
func power(i uint) *big.Int { return new(big.Int).Lsh(big.NewInt(1), i) }

// plus: n and d more.
func plus(n *big.Int, d int64) *big.Int { return new(big.Int).Add(n, big.NewInt(d)) }

// wide: the number of bytes, the highest first.
func wide(b []byte) *big.Int { return new(big.Int).SetBytes(b) }

// long: a number's 32 bytes.
func long(n *big.Int) []byte { return n.FillBytes(make([]byte, 32)) }

// num: a number as the program has it.
func num(n *big.Int) api.Num {
	var a api.Num
	for i := range a {
		a[i] = new(big.Int).Rsh(n, uint(64*i)).Uint64()
	}
	return a
}

// prime: p of the curve.
func prime() *big.Int {
	p := new(big.Int).Sub(power(256), power(224))
	return p.Add(p, power(192)).Add(p, power(96)).Sub(p, big.NewInt(1))
}

// order: n.
func order() *big.Int {
	return written16("FFFFFFFF 00000000 FFFFFFFF FFFFFFFF BCE6FAAD A7179E84 F3B9CAC2 FC632551")
}

// product and less: of two numbers, modulo m.
func product(a, b, m *big.Int) *big.Int {
	n := new(big.Int).Mul(a, b)
	return n.Mod(n, m)
}

func less(a, b, m *big.Int) *big.Int {
	n := new(big.Int).Sub(a, b)
	return n.Mod(n, m)
}

// ratio: a divided by b, modulo m.
func ratio(a, b, m *big.Int) *big.Int { return product(a, new(big.Int).ModInverse(b, m), m) }

// A point of the curve; one without an x is that at infinity.
type point struct{ x, y *big.Int }

func base() point {
	return point{
		written16("6B17D1F2 E12C4247 F8BCE6E5 63A440F2 77037D81 2DEB33A0 F4A13945 D898C296"),
		written16("4FE342E2 FE1A7F9B 8EE7EB4A 7C0F9E16 2BCE3357 6B315ECE CBB64068 37BF51F5"),
	}
}

// side: x^3 - 3x + b, modulo p.
func side(x *big.Int) *big.Int {
	n := product(x, plus(product(x, x, prime()), -3), prime())
	n.Add(n, written16("5AC635D8 AA3A93E7 B3EBBD55 769886BC 651D06B0 CC53B0F6 3BCE3C3E 27D2604B"))
	return n.Mod(n, prime())
}

// of: a point of an x that has one.
func of(x *big.Int) point {
	y := new(big.Int).ModSqrt(side(x), prime())
	if y == nil {
		panic("no point of " + x.String())
	}
	return point{x, y}
}

// mirror: what is the one at infinity with a.
func mirror(a point) point {
	if a.x == nil {
		return a
	}
	return point{a.x, less(new(big.Int), a.y, prime())}
}

// sum: by the chord of two points, or the tangent of one.
func sum(a, b point) point {
	if a.x == nil {
		return b
	}
	if b.x == nil {
		return a
	}
	p := prime()
	over, under := less(b.y, a.y, p), less(b.x, a.x, p)
	if under.Sign() == 0 {
		if over.Sign() != 0 {
			return point{}
		}
		over, under = plus(product(big.NewInt(3), product(a.x, a.x, p), p), -3), product(big.NewInt(2), a.y, p)
	}
	slope := ratio(over, under, p)
	x := less(less(product(slope, slope, p), a.x, p), b.x, p)
	return point{x, less(product(slope, less(a.x, x, p), p), a.y, p)}
}

// times: n times a by itself.
func times(n *big.Int, a point) point {
	all := point{}
	for i := n.BitLen() - 1; i >= 0; i-- {
		all = sum(all, all)
		if n.Bit(i) == 1 {
			all = sum(all, a)
		}
	}
	return all
}

// keyOf: a point's bytes.
func keyOf(a point) []byte { return joined([]byte{4}, long(a.x), long(a.y)) }

// pointOf: back, or the error by which layer 11 tells that there is none.
func pointOf(pub []byte) (point, api.Errno) {
	if len(pub) != 65 || pub[0] != 4 {
		return point{}, api.ErrForm
	}
	x, y := wide(pub[1:33]), wide(pub[33:])
	if x.Cmp(prime()) >= 0 || y.Cmp(prime()) >= 0 || product(y, y, prime()).Cmp(side(x)) != 0 {
		return point{}, api.ErrPoint
	}
	return point{x, y}, api.OK
}

// number: a message's.
func number(msg []byte) *big.Int {
	h := sha256.Sum256(msg)
	return wide(h[:])
}

func code(key []byte, parts ...[]byte) []byte {
	h := hmac.New(sha256.New, key)
	for _, part := range parts {
		h.Write(part)
	}
	return h.Sum(nil)
}

// secretsErrno: of bytes that are a secret, none.
func secretsErrno(k []byte) api.Errno {
	switch {
	case len(k) != 32:
		return api.ErrLen
	case wide(k).Sign() == 0 || wide(k).Cmp(order()) >= 0:
		return api.ErrArg
	}
	return api.OK
}

// drawn: the first draws for a secret and a message's number, so many of them.
func drawn(d, z *big.Int, many int) []*big.Int {
	v, k := bytes.Repeat([]byte{1}, 32), make([]byte, 32)
	rest := long(new(big.Int).Mod(z, order()))
	k = code(k, v, []byte{0}, long(d), rest)
	v = code(k, v)
	k = code(k, v, []byte{1}, long(d), rest)
	v = code(k, v)
	var l []*big.Int
	for {
		v = code(k, v)
		if secretsErrno(v) == api.OK {
			l = append(l, wide(v))
		}
		if len(l) == many {
			return l
		}
		k = code(k, v, []byte{0})
		v = code(k, v)
	}
}

// numbers: r and s of a message, by a secret and a draw.
func numbers(d, z, k *big.Int) (*big.Int, *big.Int) {
	r := new(big.Int).Mod(times(k, base()).x, order())
	s := new(big.Int).Add(z, product(r, d, order()))
	return r, ratio(s, k, order())
}

// integer: an INTEGER of a number, short enough for a length of one byte.
func integer(n *big.Int) []byte {
	b := n.Bytes()
	if len(b) == 0 || b[0] >= 128 {
		b = joined([]byte{0}, b)
	}
	return joined([]byte{2, byte(len(b))}, b)
}

// pair: a Seq of elements, of up to 255 bytes.
func pair(l ...[]byte) []byte {
	b := joined(l...)
	if len(b) >= 128 {
		return joined([]byte{0x30, 0x81, byte(len(b))}, b)
	}
	return joined([]byte{0x30, byte(len(b))}, b)
}

// signature: of two numbers.
func signature(r, s *big.Int) []byte { return pair(integer(r), integer(s)) }

// signedBy: what Sign answers by the chapter's words.
func signedBy(secret, msg []byte) ([]byte, api.Errno) {
	if e := secretsErrno(secret); e != api.OK {
		return nil, e
	}
	d, z := wide(secret), number(msg)
	for many := 1; ; many++ {
		r, s := numbers(d, z, drawn(d, z, many)[many-1])
		if r.Sign() != 0 && s.Sign() != 0 {
			return signature(r, s), api.OK
		}
	}
}

// numberOf: an INTEGER at the beginning of b, of a number that isn't below 0,
// and what is behind it.
func numberOf(b []byte) (*big.Int, []byte, bool) {
	if len(b) < 3 || b[0] != 2 || b[1] > 33 || len(b) < 2+int(b[1]) {
		return nil, nil, false
	}
	n := wide(b[2 : 2+b[1]])
	if b[1] == 0 || n.BitLen() > 256 || !bytes.HasPrefix(b, integer(n)) {
		return nil, nil, false
	}
	return n, b[2+b[1]:], true
}

// decoded: what Decode answers by the chapter's words.
func decoded(sig []byte) (*big.Int, *big.Int, api.Errno) {
	zero := new(big.Int)
	if len(sig) < 2 || sig[0] != 0x30 || len(sig) != 2+int(sig[1]) || sig[1] > 70 {
		return zero, zero, api.ErrForm
	}
	r, rest, isR := numberOf(sig[2:])
	s, rest, isS := numberOf(rest)
	if !isR || !isS || len(rest) != 0 {
		return zero, zero, api.ErrForm
	}
	for _, n := range []*big.Int{r, s} {
		if n.Sign() == 0 || n.Cmp(order()) >= 0 {
			return zero, zero, api.ErrSign
		}
	}
	return r, s, api.OK
}

// verified: what Verify answers by the chapter's words.
func verified(pub, msg, sig []byte) api.Errno {
	key, e := pointOf(pub)
	if e != api.OK {
		return e
	}
	r, s, e := decoded(sig)
	if e != api.OK {
		return e
	}
	all := sum(times(ratio(number(msg), s, order()), base()), times(ratio(r, s, order()), key))
	if all.x == nil || new(big.Int).Mod(all.x, order()).Cmp(r) != 0 {
		return api.ErrSign
	}
	return api.OK
}

// keyFor: the point of the key by which (r, s) signs a message, where the sum of
// Verify comes to this point.
func keyFor(a point, r, s *big.Int, msg []byte) point {
	n := order()
	rest := sum(a, mirror(times(ratio(number(msg), s, n), base())))
	return times(ratio(s, r, n), rest)
}

// secrets: at both ends, and draws.
func secrets() [][]byte {
	var l [][]byte
	for d := range int64(3) {
		l = append(l, long(big.NewInt(d+1)), long(plus(order(), -d-1)))
	}
	for _, i := range []uint{8, 64, 127, 192, 255} {
		l = append(l, long(power(i)), long(plus(power(i), -1)))
	}
	for i := range uint64(4) {
		l = append(l, some(32, i))
	}
	return l
}

// messages: of no bytes, of one, of as many as fill a hash's blocks, of many.
func messages() [][]byte {
	l := [][]byte{nil, {}, {0}, {255}, []byte("sample"), []byte(overOrder), []byte(secondDraw)}
	for _, n := range []int{2, 32, 55, 56, 63, 64, 65, 128, 1000, 100000} {
		l = append(l, some(n, uint64(n)))
	}
	return l
}

// What the other tests hold the program against keeps the chapter's words itself.
func TestModel(t *testing.T) {
	if times(order(), base()).x != nil {
		t.Error("the base isn't of that order")
	}
	if a := times(plus(order(), -1), base()); !slices.Equal(keyOf(a), keyOf(mirror(base()))) {
		t.Error("one less than the order:", a)
	}
	if b := signature(big.NewInt(127), big.NewInt(128)); !bytes.Equal(b, []byte{0x30, 7, 2, 1, 127, 2, 2, 0, 128}) {
		t.Errorf("127, 128: %X", b)
	}
	for i, r := range []*big.Int{big.NewInt(1), order(), plus(power(256), -1), power(248)} {
		b := signature(r, r)
		n, rest, ok := numberOf(b[2:])
		if m, end, again := numberOf(rest); !ok || !again || len(end) != 0 || n.Cmp(r) != 0 || m.Cmp(r) != 0 {
			t.Errorf("%d: %X", i, b)
		}
	}
	if number([]byte(overOrder)).Cmp(order()) < 0 {
		t.Error("that message's number isn't beyond the order")
	}
}
