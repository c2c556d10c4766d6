package monty_test

import (
	"bytes"
	"crypto/ecdh"
	"crypto/sha256"
	"encoding/hex"
	"math/big"
	"slices"
	"sync"
	"testing"

	"cartouche/api"
	"cartouche/monty"
	"cartouche/words"
)

// some: n bytes with no pattern to them, others for another seed.
func some(n int, seed uint64) []byte {
	b := make([]byte, n)
	state := seed*0x9E3779B97F4A7C15 + 611
	for i := range b {
		state = state*6364136223846793005 + 1442695040888963407
		b[i] = byte(state >> 56)
	}
	return b
}

func unhex(t *testing.T, s string) []byte {
	t.Helper()
	b, err := hex.DecodeString(s)
	if err != nil {
		t.Fatal(err)
	}
	return b
}

// prime: 2^255 - 19.
func prime() *big.Int {
	p := new(big.Int).Lsh(big.NewInt(1), 255)
	return p.Sub(p, big.NewInt(19))
}

// little: the 32 bytes of a number, the lowest first.
func little(n *big.Int) []byte {
	b := n.FillBytes(make([]byte, 32))
	slices.Reverse(b)
	return b
}

// wide: the number of bytes, the lowest first.
func wide(b []byte) *big.Int {
	b = bytes.Clone(b)
	slices.Reverse(b)
	return new(big.Int).SetBytes(b)
}

// plus: a number's 32 bytes, d above or below it.
func plus(n *big.Int, d int64) []byte { return little(new(big.Int).Add(n, big.NewInt(d))) }

// raised: bytes with bit 255 turned.
func raised(b []byte) []byte {
	b = bytes.Clone(b)
	b[31] ^= 0x80
	return b
}

func mult(t *testing.T, k, u []byte) []byte {
	t.Helper()
	b, e := monty.Mult(k, u)
	if e != api.OK || len(b) != 32 {
		t.Fatalf("Mult(%X, %X): %X, %d", k, u, b, e)
	}
	return b
}

func public(t *testing.T, k []byte) []byte {
	t.Helper()
	b, e := monty.Public(k)
	if e != api.OK || len(b) != 32 {
		t.Fatalf("Public(%X): %X, %d", k, b, e)
	}
	return b
}

func shared(t *testing.T, k, peer []byte) []byte {
	t.Helper()
	b, e := monty.Shared(k, peer)
	if e != api.OK || len(b) != 32 {
		t.Fatalf("Shared(%X, %X): %X, %d", k, peer, b, e)
	}
	return b
}

// nothing: points of which nothing comes, each number below 2^255 for them:
// those of an order that divides 8, on the curve and in the field of p^2.
func nothing(t *testing.T) [][]byte {
	p := prime()
	return [][]byte{
		make([]byte, 32), plus(new(big.Int), 1), plus(p, -1), plus(p, 0), plus(p, 1),
		unhex(t, "e0eb7a7c3b41b8ae1656e3faf19fc46ada098deb9c32b1fd866205165f49b800"),
		unhex(t, "5f9c95bca3508c24b1d0b1559c83ef5b04445cc4581c8e86d8224eddd09f1157"),
	}
}

// points: small ones, those about the prime and at the ends, one for each bit,
// and draws.
func points(t *testing.T) [][]byte {
	p := prime()
	l := nothing(t)
	for d := range int64(20) {
		l = append(l, plus(new(big.Int), d), plus(p, -d), plus(p, d-1), raised(plus(p, d-1)))
	}
	for i := range 256 {
		b := make([]byte, 32)
		b[i/8] = 1 << (i % 8)
		l = append(l, b)
	}
	for i := range uint64(40) {
		l = append(l, some(32, i+1000))
	}
	return append(l, bytes.Repeat([]byte{0xFF}, 32), bytes.Repeat([]byte{0x55}, 32))
}

// secrets: one for each bit, at the ends, and draws.
func secrets() [][]byte {
	l := [][]byte{make([]byte, 32), bytes.Repeat([]byte{0xFF}, 32), bytes.Repeat([]byte{0xAA}, 32)}
	for i := range 256 {
		b := make([]byte, 32)
		b[i/8] = 1 << (i % 8)
		l = append(l, b)
	}
	for i := range uint64(40) {
		l = append(l, some(32, i))
	}
	return l
}

// number: by the chapter's words: each bit of 32 bytes, three below left out,
// 255 too, 254 put in.
func number(k []byte) *big.Int {
	n := new(big.Int)
	for i := 3; i < 254; i++ {
		n.SetBit(n, i, uint(k[i/8]>>(i%8)&1))
	}
	return n.SetBit(n, 254, 1)
}

func TestClamp(t *testing.T) {
	for _, k := range secrets() {
		n, ok := monty.Clamp(k)
		b := words.Bytes(n)
		if want := number(k); !ok || new(big.Int).SetBytes(b[:]).Cmp(want) != 0 {
			t.Fatalf("%X: %X, %v, not %X", k, n, ok, want)
		}
	}
	for _, c := range []struct {
		k    string
		want api.Num
	}{
		{"0000000000000000000000000000000000000000000000000000000000000000", api.Num{0, 0, 0, 1 << 62}},
		{"ffffffffffffffffffffffffffffffffffffffffffffffffffffffffffffffff", api.Num{1<<64 - 8, 1<<64 - 1, 1<<64 - 1, 1<<63 - 1}},
		{"0700000000000000000000000000000000000000000000000000000000000080", api.Num{0, 0, 0, 1 << 62}},
		{"000102030405060708090a0b0c0d0e0f101112131415161718191a1b1c1d1e1f", api.Num{0x0706050403020100, 0x0f0e0d0c0b0a0908, 0x1716151413121110, 0x5f1e1d1c1b1a1918}},
	} {
		if n, ok := monty.Clamp(unhex(t, c.k)); !ok || n != c.want {
			t.Errorf("%s: %X, %v, not %X", c.k, n, ok, c.want)
		}
	}
}

// wrong: bytes that aren't 32, whatever stands behind them.
func wrong() [][]byte {
	l := [][]byte{nil, {}, make([]byte, 31, 64), make([]byte, 0, 32), make([]byte, 256+32), make([]byte, 1<<16+32), make([]byte, 1<<20)}
	for n := range 70 {
		if n != 32 {
			l = append(l, some(n, 3))
		}
	}
	return l
}

func TestLengths(t *testing.T) {
	right := some(32, 1)
	for _, b := range wrong() {
		if n, ok := monty.Clamp(b); ok || n != (api.Num{}) {
			t.Errorf("%d bytes: number %X, %v", len(b), n, ok)
		}
		if p, e := monty.Public(b); e != api.ErrLen || p != nil {
			t.Errorf("%d bytes: public key %X, %d", len(b), p, e)
		}
		for _, call := range []func(k, u []byte) ([]byte, api.Errno){monty.Mult, monty.Shared} {
			for _, u := range [][]byte{right, make([]byte, 32), b, nil} {
				if s, e := call(b, u); e != api.ErrLen || s != nil {
					t.Errorf("a secret of %d bytes, a point of %d: %X, %d", len(b), len(u), s, e)
				}
				if s, e := call(u, b); e != api.ErrLen || s != nil {
					t.Errorf("a secret of %d bytes, a point of %d: %X, %d", len(u), len(b), s, e)
				}
			}
		}
	}
	// The room behind them doesn't count.
	long := some(64, 2)
	if got, want := mult(t, long[:32], long[16:48]), mult(t, bytes.Clone(long[:32]), bytes.Clone(long[16:48])); !bytes.Equal(got, want) {
		t.Errorf("with room behind: %X, not %X", got, want)
	}
}

// RFC 7748, 5.2.
func TestKnownProducts(t *testing.T) {
	for _, c := range []struct{ k, u, want string }{
		{"a546e36bf0527c9d3b16154b82465edd62144c0ac1fc5a18506a2244ba449ac4", "e6db6867583030db3594c1a424b15f7c726624ec26b3353b10a903a6d0ab1c4c", "c3da55379de9c6908e94ea4df28d084f32eccf03491c71f754b4075577a28552"},
		{"4b66e9d4d1b4673c5ad22691957d6af5c11b6421e0ea01d42ca4169e7918ba0d", "e5210f12786811d3f4b7959d0538ae2c31dbe7106fc03c3efc4cd549c715a493", "95cbde9476e8907d7aade45cb4b873f88b595a68799fa152e6f8f7647aac7957"},
	} {
		if got := hex.EncodeToString(mult(t, unhex(t, c.k), unhex(t, c.u))); got != c.want {
			t.Errorf("%s, %s: %s, not %s", c.k, c.u, got, c.want)
		}
	}
}

// RFC 7748, 5.2: each answer is the next secret, each secret the next point.
func TestKnownChain(t *testing.T) {
	k := plus(new(big.Int), 9)
	u := k
	want := map[int]string{
		1:    "422c8e7a6227d7bca1350b3e2bb7279f7897b87bb6854b783c60e80311ae3079",
		1000: "684cf59ba83309552800ef566f2f4d3c1c3887c49360e3875f2eb94d99532c51",
	}
	for i := 1; i <= 1000; i++ {
		k, u = mult(t, k, u), k
		if s := hex.EncodeToString(k); want[i] != "" && s != want[i] {
			t.Fatalf("step %d: %s, not %s", i, s, want[i])
		}
	}
}

// RFC 7748, 6.1; RFC 8448, 3.
func TestKnownSharing(t *testing.T) {
	for _, c := range []struct{ one, onePublic, other, otherPublic, want string }{
		{
			"77076d0a7318a57d3c16c17251b26645df4c2f87ebc0992ab177fba51db92c2a", "8520f0098930a754748b7ddcb43ef75a0dbf3a0d26381af4eba4a98eaa9b4e6a",
			"5dab087e624a8a4b79e17f8b83800ee66f3bb1292618b6fd1c2f8b27ff88e0eb", "de9edb7d7b7dc1b4d35b61c2ece435373f8343c85b78674dadfc7e146f882b4f",
			"4a5d9d5ba4ce2de1728e3bf480350f25e07e21c947d19e3376f09b3c1e161742",
		},
		{
			"49af42ba7f7994852d713ef2784bcbcaa7911de26adc5642cb634540e7ea5005", "99381de560e4bd43d23d8e435a7dbafeb3c06e51c13cae4d5413691e529aaf2c",
			"b1580eeadf6dd589b8ef4f2d5652578cc810e9980191ec8d058308cea216a21e", "c9828876112095fe66762bdbf7c672e156d6cc253b833df1dd69b1b04e751f0f",
			"8bd4054fb55b9d63fdfbacf9f04b9f0d35e6d63f537563efd46272900f89492d",
		},
	} {
		one, other := unhex(t, c.one), unhex(t, c.other)
		for i, pair := range []struct {
			got  []byte
			want string
		}{
			{public(t, one), c.onePublic},
			{public(t, other), c.otherPublic},
			{shared(t, one, unhex(t, c.otherPublic)), c.want},
			{shared(t, other, unhex(t, c.onePublic)), c.want},
		} {
			if got := hex.EncodeToString(pair.got); got != pair.want {
				t.Errorf("%d: %s, not %s", i, got, pair.want)
			}
		}
	}
}

// Many secrets and points, each one's bytes drawn, as OpenSSL 3.0 shares them:
// the hash of all public keys and of all that is shared, one behind the other.
func TestSharedAsByOpenssl(t *testing.T) {
	const want = "12b716704706a9d9b41f77aeb13403908076b44606fb22b992bbcd4f6f7d8681"
	sum := sha256.New()
	for i := range uint64(500) {
		k, u := some(32, 2*i), some(32, 2*i+1)
		sum.Write(public(t, k))
		sum.Write(shared(t, k, u))
	}
	if got := hex.EncodeToString(sum.Sum(nil)); got != want {
		t.Errorf("%s, not %s", got, want)
	}
}

// ofLibrary: what Go's library shares; nil where it refuses that.
func ofLibrary(t *testing.T, k, u []byte) []byte {
	t.Helper()
	secret, err := ecdh.X25519().NewPrivateKey(k)
	if err != nil {
		t.Fatal(err)
	}
	peer, err := ecdh.X25519().NewPublicKey(u)
	if err != nil {
		t.Fatal(err)
	}
	b, err := secret.ECDH(peer)
	if err != nil {
		return nil
	}
	return b
}

// checkAsLibrary: Mult and Shared answer as Go's library, which refuses a 0.
func checkAsLibrary(t *testing.T, k, u []byte) {
	t.Helper()
	want := ofLibrary(t, k, u)
	if want == nil {
		if b := mult(t, k, u); !bytes.Equal(b, make([]byte, 32)) {
			t.Fatalf("Mult(%X, %X): %X, not 0", k, u, b)
		}
		if b, e := monty.Shared(k, u); e != api.ErrPoint || b != nil {
			t.Fatalf("Shared(%X, %X): %X, %d", k, u, b, e)
		}
		return
	}
	if b := mult(t, k, u); !bytes.Equal(b, want) {
		t.Fatalf("Mult(%X, %X): %X, not %X", k, u, b, want)
	}
	if b := shared(t, k, u); !bytes.Equal(b, want) {
		t.Fatalf("Shared(%X, %X): %X, not %X", k, u, b, want)
	}
}

func TestSharedAsByLibrary(t *testing.T) {
	for _, u := range points(t) {
		checkAsLibrary(t, some(32, 1), u)
		checkAsLibrary(t, u, some(32, 2))
		checkAsLibrary(t, u, u)
	}
	for i, k := range secrets() {
		checkAsLibrary(t, k, some(32, uint64(i)))
		checkAsLibrary(t, k, points(t)[i%100])
	}
}

func TestPublic(t *testing.T) {
	nine := plus(new(big.Int), 9)
	for _, k := range secrets() {
		secret, err := ecdh.X25519().NewPrivateKey(k)
		if err != nil {
			t.Fatal(err)
		}
		if b := public(t, k); !bytes.Equal(b, secret.PublicKey().Bytes()) || !bytes.Equal(b, mult(t, k, nine)) {
			t.Fatalf("%X: %X, not %X", k, b, secret.PublicKey().Bytes())
		}
	}
}

// A square is a number of the field of p^2: a + b times a square root of 2,
// which has none modulo p.
type square struct{ a, b *big.Int }

func whole(n *big.Int) square { return square{new(big.Int).Mod(n, prime()), new(big.Int)} }

func small(n int64) square { return whole(big.NewInt(n)) }

func (x square) isZero() bool { return x.a.Sign() == 0 && x.b.Sign() == 0 }

func (x square) equal(y square) bool { return x.a.Cmp(y.a) == 0 && x.b.Cmp(y.b) == 0 }

func (x square) add(y square) square {
	p, a, b := prime(), new(big.Int).Add(x.a, y.a), new(big.Int).Add(x.b, y.b)
	return square{a.Mod(a, p), b.Mod(b, p)}
}

func (x square) sub(y square) square {
	p, a, b := prime(), new(big.Int).Sub(x.a, y.a), new(big.Int).Sub(x.b, y.b)
	return square{a.Mod(a, p), b.Mod(b, p)}
}

func (x square) mul(y square) square {
	p := prime()
	a, twice := new(big.Int).Mul(x.a, y.a), new(big.Int).Mul(x.b, y.b)
	b, other := new(big.Int).Mul(x.a, y.b), new(big.Int).Mul(x.b, y.a)
	a.Add(a, twice).Add(a, twice)
	b.Add(b, other)
	return square{a.Mod(a, p), b.Mod(b, p)}
}

// by: x divided by y, which isn't 0.
func (x square) by(y square) square {
	conjugate := square{y.a, new(big.Int).Neg(y.b)}
	norm := y.mul(conjugate).a
	return x.mul(conjugate).mul(whole(norm.ModInverse(norm, prime())))
}

// A point of the curve; nil is that at infinity.
type point struct{ u, v square }

// side: u^3 + 486662 u^2 + u.
func side(u square) square {
	return u.mul(u).mul(u).add(small(486662).mul(u).mul(u)).add(u)
}

// pointOf: one of a u below p, with v modulo p or in the field of p^2.
func pointOf(t *testing.T, u *big.Int) *point {
	t.Helper()
	x := whole(u)
	right := side(x).a
	root := new(big.Int).ModSqrt(right, prime())
	v := square{root, new(big.Int)}
	if root == nil {
		half := new(big.Int).ModInverse(big.NewInt(2), prime())
		half.Mul(half, right).Mod(half, prime())
		v = square{new(big.Int), new(big.Int).ModSqrt(half, prime())}
	}
	if v.b == nil || !v.mul(v).equal(side(x)) {
		t.Fatal("no point of", u)
	}
	return &point{x, v}
}

// sum: by chords and tangents.
func sum(p, q *point) *point {
	if p == nil {
		return q
	}
	if q == nil {
		return p
	}
	var slope square
	if p.u.equal(q.u) {
		if p.v.add(q.v).isZero() {
			return nil
		}
		rise := small(3).mul(p.u).mul(p.u).add(small(2 * 486662).mul(p.u)).add(small(1))
		slope = rise.by(p.v.add(p.v))
	} else {
		slope = q.v.sub(p.v).by(q.u.sub(p.u))
	}
	u := slope.mul(slope).sub(small(486662)).sub(p.u).sub(q.u)
	return &point{u, slope.mul(p.u.sub(u)).sub(p.v)}
}

// product: by the chapter's words: the u of n times a point by itself.
func product(t *testing.T, n *big.Int, p *point) []byte {
	t.Helper()
	var times *point
	for i := n.BitLen() - 1; i >= 0; i-- {
		times = sum(times, times)
		if n.Bit(i) == 1 {
			times = sum(times, p)
		}
	}
	if times == nil {
		return make([]byte, 32)
	}
	if times.u.b.Sign() != 0 {
		t.Fatal("a u in the field of p^2")
	}
	return little(times.u.a)
}

// The chapter's curve, with no ladder: chords and tangents, whichever v is taken.
func TestProductsByTheCurve(t *testing.T) {
	onCurve, beyond := 0, 0
	for i, bytesOf := range points(t) {
		u := wide(bytesOf)
		u.SetBit(u, 255, 0)
		p := pointOf(t, u.Mod(u, prime()))
		if p.v.b.Sign() == 0 {
			onCurve++
		} else {
			beyond++
		}
		k := secrets()[i%len(secrets())]
		if i%2 == 1 {
			p = &point{p.u, small(0).sub(p.v)}
		}
		if got, want := mult(t, k, bytesOf), product(t, number(k), p); !bytes.Equal(got, want) {
			t.Fatalf("Mult(%X, %X): %X, not %X", k, bytesOf, got, want)
		}
	}
	if onCurve < 50 || beyond < 50 {
		t.Errorf("%d points modulo p, %d in the field of p^2", onCurve, beyond)
	}
}

// The lowest three bits of a secret and its two highest ones change nothing;
// each other bit does.
func TestBitsLeftOut(t *testing.T) {
	for seed := range uint64(3) {
		k, u := some(32, seed+5), some(32, seed+50)
		key, product, common := public(t, k), mult(t, k, u), shared(t, k, u)
		n, _ := monty.Clamp(k)
		for i := range 256 {
			same := i < 3 || i > 253
			other := bytes.Clone(k)
			other[i/8] ^= 1 << (i % 8)
			m, ok := monty.Clamp(other)
			if !ok || (m == n) != same || bytes.Equal(public(t, other), key) != same ||
				bytes.Equal(mult(t, other, u), product) != same || bytes.Equal(shared(t, other, u), common) != same {
				t.Errorf("secret %X, bit %d turned: %X, not %X", k, i, m, n)
			}
		}
	}
}

// Bit 255 of a point changes nothing; each other bit does.
func TestBit255(t *testing.T) {
	k := some(32, 6)
	for _, u := range points(t) {
		if one, other := mult(t, k, u), mult(t, k, raised(u)); !bytes.Equal(one, other) {
			t.Fatalf("%X: %X, with bit 255 turned %X", u, one, other)
		}
		one, e := monty.Shared(k, u)
		other, f := monty.Shared(k, raised(u))
		if e != f || !bytes.Equal(one, other) {
			t.Fatalf("%X: shared %X, %d; with bit 255 turned %X, %d", u, one, e, other, f)
		}
	}
	u := some(32, 7)
	seen := map[string]bool{string(mult(t, k, u)): true}
	for i := range 255 {
		other := bytes.Clone(u)
		other[i/8] ^= 1 << (i % 8)
		seen[string(mult(t, k, other))] = true
	}
	if len(seen) != 256 {
		t.Errorf("256 points make %d products", len(seen))
	}
}

// A point of p to 2^255 - 1 is that of the number less p.
func TestFromThePrimeOn(t *testing.T) {
	for d := range int64(19) {
		for i := range uint64(5) {
			k, low, high := some(32, i), plus(new(big.Int), d), plus(prime(), d)
			for _, u := range [][]byte{high, raised(high), raised(low)} {
				if got, want := mult(t, k, u), mult(t, k, low); !bytes.Equal(got, want) {
					t.Errorf("%d more than p: %X, not %X", d, got, want)
				}
			}
		}
	}
}

// Of a point whose order divides 8 nothing comes, whatever the secret.
func TestPointsOfNothing(t *testing.T) {
	for _, u := range nothing(t) {
		for _, u := range [][]byte{u, raised(u)} {
			for i, k := range secrets() {
				// Those at the ends, and some with each kind of bit.
				if i > 3 && i%13 != 0 {
					continue
				}
				if b := mult(t, k, u); !bytes.Equal(b, make([]byte, 32)) {
					t.Fatalf("Mult(%X, %X): %X", k, u, b)
				}
				if b, e := monty.Shared(k, u); e != api.ErrPoint || b != nil {
					t.Fatalf("Shared(%X, %X): %X, %d", k, u, b, e)
				}
			}
			// A length is told ahead of them.
			if b, e := monty.Shared(nil, u); e != api.ErrLen || b != nil {
				t.Errorf("Shared of nil and %X: %X, %d", u, b, e)
			}
		}
	}
}

// Every other point gives something: a point's neighbours, and secrets that are
// 0 but for the bit put in.
func TestSharedIsSomething(t *testing.T) {
	none := map[string]bool{}
	for _, u := range nothing(t) {
		none[string(u)], none[string(raised(u))] = true, true
	}
	for _, u := range points(t) {
		if none[string(u)] {
			continue
		}
		for _, k := range [][]byte{make([]byte, 32), some(32, 1), bytes.Repeat([]byte{0xFF}, 32)} {
			if b := shared(t, k, u); bytes.Equal(b, make([]byte, 32)) || wide(b).Cmp(prime()) >= 0 {
				t.Fatalf("Shared(%X, %X): %X", k, u, b)
			}
		}
	}
}

// P9.2: both share the same.
func TestBothShareTheSame(t *testing.T) {
	all := secrets()
	for i, k := range all {
		for _, other := range [][]byte{all[(i*7+1)%len(all)], k} {
			one, two := shared(t, k, public(t, other)), shared(t, other, public(t, k))
			if !bytes.Equal(one, two) {
				t.Fatalf("%X and %X: %X and %X", k, other, one, two)
			}
			if i == 0 && bytes.Equal(one, shared(t, k, public(t, some(32, 99)))) {
				t.Fatalf("%X: %X with two peers", k, one)
			}
		}
	}
}

// The order of the secrets changes nothing on any point.
func TestOrderOfSecrets(t *testing.T) {
	for i, u := range points(t) {
		k, other := some(32, uint64(i)), some(32, uint64(i)+500)
		if one, two := mult(t, k, mult(t, other, u)), mult(t, other, mult(t, k, u)); !bytes.Equal(one, two) {
			t.Fatalf("%X and %X of %X: %X and %X", k, other, u, one, two)
		}
	}
}

// roomy: bytes with room behind them, and a check that neither has changed.
func roomy(t *testing.T, n int, seed uint64) ([]byte, func()) {
	whole := some(n+64, seed)
	return whole[:n], func() {
		t.Helper()
		if !bytes.Equal(whole, some(n+64, seed)) {
			t.Errorf("%d bytes handed in, or the room behind them, have changed", n)
		}
	}
}

func TestArgumentsStay(t *testing.T) {
	for _, n := range []int{0, 31, 32, 33} {
		for _, m := range []int{0, 31, 32, 33} {
			k, checkK := roomy(t, n, 1)
			u, checkU := roomy(t, m, 2)
			monty.Clamp(k)
			monty.Public(k)
			monty.Mult(k, u)
			monty.Shared(k, u)
			checkK()
			checkU()
		}
	}
}

// Answers are new memory, and keep nothing of what was handed in.
func TestNothingShared(t *testing.T) {
	k, u := some(32, 1), some(32, 2)
	key, product, common := public(t, k), mult(t, k, u), shared(t, k, u)
	for _, call := range []func() []byte{
		func() []byte { return public(t, k) },
		func() []byte { return mult(t, k, u) },
		func() []byte { return shared(t, k, u) },
	} {
		want := bytes.Clone(call())
		b := call()
		clear(b[:cap(b)])
		if again := call(); !bytes.Equal(again, want) {
			t.Errorf("%X, then %X", want, again)
		}
	}
	clear(k)
	clear(u)
	k, u = some(32, 1), some(32, 2)
	if !bytes.Equal(key, public(t, k)) || !bytes.Equal(product, mult(t, k, u)) || !bytes.Equal(common, shared(t, k, u)) {
		t.Error("an answer changed with what was handed in")
	}
}

// The same bytes may stand for both arguments, or overlap.
func TestSharedArguments(t *testing.T) {
	for i := range uint64(20) {
		b := some(48, i)
		for _, c := range [][2][]byte{{b[:32], b[:32]}, {b[:32], b[16:]}, {b[16:], b[:32]}} {
			if got, want := mult(t, c[0], c[1]), ofLibrary(t, bytes.Clone(c[0]), bytes.Clone(c[1])); !bytes.Equal(got, want) {
				t.Errorf("%X and %X: %X, not %X", c[0], c[1], got, want)
			}
		}
	}
}

// What was answered before changes nothing, errors neither.
func TestSameAgain(t *testing.T) {
	k, u := some(32, 1), some(32, 2)
	want := shared(t, k, u)
	for i := range uint64(30) {
		monty.Shared(k, make([]byte, 32))
		monty.Shared(nil, u)
		public(t, some(32, i))
		mult(t, some(32, i), some(32, i+1))
		if b := shared(t, k, u); !bytes.Equal(b, want) {
			t.Fatalf("%X, not %X", b, want)
		}
	}
}

func TestAskedAtOnce(t *testing.T) {
	u := some(32, 2)
	var all sync.WaitGroup
	for i := range uint64(8) {
		k := some(32, i)
		want, key := ofLibrary(t, k, u), public(t, k)
		all.Go(func() {
			for range 20 {
				if b, e := monty.Shared(k, u); e != api.OK || !bytes.Equal(b, want) {
					t.Error("shared otherwise")
				}
				if b, e := monty.Public(k); e != api.OK || !bytes.Equal(b, key) {
					t.Error("another public key")
				}
			}
		})
	}
	all.Wait()
}
