package edwards_test

import (
	"bytes"
	"crypto/ed25519"
	"crypto/sha256"
	"encoding/hex"
	"math/big"
	"sync"
	"testing"

	"cartouche/api"
	"cartouche/edwards"
)

// some: n bytes with no pattern to them, others for another seed.
func some(n int, seed uint64) []byte {
	b := make([]byte, n)
	state := seed*0x9E3779B97F4A7C15 + 611
	for i := range b {
		state = state*6364136223846793005 + 1442695040888963407
		b[i] = byte(state >> 56)
	}
	return b
}

func unhex(t *testing.T, s string) []byte {
	t.Helper()
	b, err := hex.DecodeString(s)
	if err != nil {
		t.Fatal(err)
	}
	return b
}

// turned: bytes with one bit turned.
func turned(b []byte, bit int) []byte {
	b = bytes.Clone(b)
	b[bit/8] ^= 1 << (bit % 8)
	return b
}

// joined: new bytes, one behind the other.
func joined(parts ...[]byte) []byte { return bytes.Join(parts, nil) }

func public(t *testing.T, seed []byte) []byte {
	t.Helper()
	b, e := edwards.Public(seed)
	if e != api.OK || len(b) != 32 {
		t.Fatalf("Public(%X): %X, %d", seed, b, e)
	}
	return b
}

func sign(t *testing.T, seed, msg []byte) []byte {
	t.Helper()
	b, e := edwards.Sign(seed, msg)
	if e != api.OK || len(b) != 64 {
		t.Fatalf("Sign(%X, %d bytes): %X, %d", seed, len(msg), b, e)
	}
	return b
}

// checkVerify: Verify answers what it must.
func checkVerify(t *testing.T, pub, msg, sig []byte, want api.Errno) {
	t.Helper()
	if e := edwards.Verify(pub, msg, sig); e != want {
		t.Fatalf("Verify(%X, %d bytes, %X): %d, not %d", pub, len(msg), sig, e, want)
	}
}

// seeds: one for each bit, at the ends, and draws.
func seeds() [][]byte {
	l := [][]byte{make([]byte, 32), bytes.Repeat([]byte{0xFF}, 32), bytes.Repeat([]byte{0xAA}, 32)}
	for i := range 256 {
		l = append(l, turned(make([]byte, 32), i))
	}
	for i := range uint64(40) {
		l = append(l, some(32, i))
	}
	return l
}

// RFC 8032, 7.1.
func TestKnownSignatures(t *testing.T) {
	for _, c := range []struct{ seed, pub, msg, sig string }{
		{
			"9d61b19deffd5a60ba844af492ec2cc44449c5697b326919703bac031cae7f60",
			"d75a980182b10ab7d54bfed3c964073a0ee172f3daa62325af021a68f707511a", "",
			"e5564300c360ac729086e2cc806e828a84877f1eb8e5d974d873e065224901555fb8821590a33bacc61e39701cf9b46bd25bf5f0595bbe24655141438e7a100b",
		},
		{
			"4ccd089b28ff96da9db6c346ec114e0f5b8a319f35aba624da8cf6ed4fb8a6fb",
			"3d4017c3e843895a92b70aa74d1b7ebc9c982ccf2ec4968cc0cd55f12af4660c", "72",
			"92a009a9f0d4cab8720e820b5f642540a2b27b5416503f8fb3762223ebdb69da085ac1e43e15996e458f3613d0f11d8c387b2eaeb4302aeeb00d291612bb0c00",
		},
		{
			"c5aa8df43f9f837bedb7442f31dcb7b166d38535076f094b85ce3a2e0b4458f7",
			"fc51cd8e6218a1a38da47ed00230f0580816ed13ba3303ac5deb911548908025", "af82",
			"6291d657deec24024827e69c3abe01a30ce548a284743a445e3680d7db5ac3ac18ff9b538d16f290ae67f760984dc6594a7c15e9716ed28dc027beceea1ec40a",
		},
		{
			"833fe62409237b9d62ec77587520911e9a759cec1d19755b7da901b96dca3d42",
			"ec172b93ad5e563bf4932c70e1245034c35467ef2efd4d64ebf819683467e2bf",
			"ddaf35a193617abacc417349ae20413112e6fa4e89a97ea20a9eeee64b55d39a2192992a274fc1a836ba3c23a3feebbd454d4423643ce80e2a9ac94fa54ca49f",
			"dc2a4459e7369633a52b1bf277839a00201009a3efbf3ecb69bea2186c26b58909351fc9ac90b3ecfdfbc7c66431e0303dca179c138ac17ad9bef1177331a704",
		},
	} {
		seed, msg := unhex(t, c.seed), unhex(t, c.msg)
		if pub := hex.EncodeToString(public(t, seed)); pub != c.pub {
			t.Errorf("seed %s: key %s, not %s", c.seed, pub, c.pub)
		}
		if sig := hex.EncodeToString(sign(t, seed, msg)); sig != c.sig {
			t.Errorf("seed %s: signature %s, not %s", c.seed, sig, c.sig)
		}
		checkVerify(t, unhex(t, c.pub), msg, unhex(t, c.sig), api.OK)
	}
}

// Many seeds and messages, each one's bytes drawn, as OpenSSL 3.0 signs them: the
// hash of all keys and signatures, one behind the other.
func TestSignsAsOpenssl(t *testing.T) {
	const want = "6a131375f4d91eab53b9dd95c1a8497f86492f5ba6b1e72226fdfea649b746fa"
	all := sha256.New()
	for i := range 300 {
		seed, msg := some(32, uint64(2*i)), some(i+1, uint64(2*i+1))
		all.Write(public(t, seed))
		all.Write(sign(t, seed, msg))
	}
	if got := hex.EncodeToString(all.Sum(nil)); got != want {
		t.Errorf("%s, not %s", got, want)
	}
}

// checkAsLibrary: key and signature are those of Go's library, and are taken
// (P10.2); of another seed, or another message, they aren't.
func checkAsLibrary(t *testing.T, seed, msg []byte) {
	t.Helper()
	secret := ed25519.NewKeyFromSeed(seed)
	pub, sig := public(t, seed), sign(t, seed, msg)
	if want := []byte(secret.Public().(ed25519.PublicKey)); !bytes.Equal(pub, want) {
		t.Fatalf("seed %X: key %X, not %X", seed, pub, want)
	}
	if want := ed25519.Sign(secret, msg); !bytes.Equal(sig, want) {
		t.Fatalf("seed %X, %d bytes: signature %X, not %X", seed, len(msg), sig, want)
	}
	if !edwards.Point(pub) {
		t.Fatalf("seed %X: the key %X is no point", seed, pub)
	}
	checkVerify(t, pub, msg, sig, api.OK)
	checkVerify(t, pub, append([]byte{0}, msg...), sig, api.ErrSign)
}

func TestSignsAsLibrary(t *testing.T) {
	for i, seed := range seeds() {
		checkAsLibrary(t, seed, some(i, uint64(i)+7))
	}
	// Whole blocks of the hash, behind a prefix of 32 bytes and two points.
	for _, n := range []int{0, 1, 31, 32, 47, 48, 63, 64, 65, 79, 80, 95, 96, 127, 128, 129, 4096, 1 << 20} {
		checkAsLibrary(t, some(32, 77), some(n, 5))
		checkAsLibrary(t, some(32, 78), make([]byte, n))
	}
}

// By the chapter's words, with no library.
func TestSignsAsModel(t *testing.T) {
	for i := range 12 {
		seed, msg := some(32, uint64(i)+900), some(7*i, uint64(i))
		pub, sig := signed(seed, msg)
		if got := public(t, seed); !bytes.Equal(got, pub) {
			t.Fatalf("seed %X: key %X, not %X", seed, got, pub)
		}
		if got := sign(t, seed, msg); !bytes.Equal(got, sig) {
			t.Fatalf("seed %X: signature %X, not %X", seed, got, sig)
		}
		for _, c := range [][]byte{sig, turned(sig, 13*i), turned(sig, 256+20*i)} {
			checkVerify(t, pub, msg, c, verified(pub, msg, c))
		}
	}
}

func TestNoMessage(t *testing.T) {
	seed := some(32, 3)
	pub, sig := public(t, seed), sign(t, seed, nil)
	if other := sign(t, seed, []byte{}); !bytes.Equal(sig, other) {
		t.Errorf("of nil %X, of no bytes %X", sig, other)
	}
	checkVerify(t, pub, nil, sig, api.OK)
	checkVerify(t, pub, []byte{}, sig, api.OK)
	checkVerify(t, pub, []byte{0}, sig, api.ErrSign)
}

// Each bit of a key, a signature and a message counts.
func TestEachBitCounts(t *testing.T) {
	seed, msg := some(32, 1), some(40, 2)
	pub, sig := public(t, seed), sign(t, seed, msg)
	for i := range 8 * len(sig) {
		checkVerify(t, pub, msg, turned(sig, i), api.ErrSign)
	}
	for i := range 8 * len(pub) {
		checkVerify(t, turned(pub, i), msg, sig, api.ErrSign)
	}
	for i := range 8 * len(msg) {
		checkVerify(t, pub, turned(msg, i), sig, api.ErrSign)
	}
	for n := range msg {
		checkVerify(t, pub, msg[:n], sig, api.ErrSign)
	}
	checkVerify(t, pub, msg, sig, api.OK)
}

// A key takes what its own seed signs alone; a signature's halves go together.
func TestOthersKeysAndHalves(t *testing.T) {
	msg, other := some(20, 1), some(20, 2)
	one, two := some(32, 10), some(32, 11)
	sig := sign(t, one, msg)
	for _, half := range [][]byte{sign(t, two, msg), sign(t, one, other), make([]byte, 64), bytes.Repeat([]byte{0xFF}, 64)} {
		checkVerify(t, public(t, one), msg, half, api.ErrSign)
		checkVerify(t, public(t, one), msg, joined(sig[:32], half[32:]), api.ErrSign)
		checkVerify(t, public(t, one), msg, joined(half[:32], sig[32:]), api.ErrSign)
	}
	checkVerify(t, public(t, two), msg, sig, api.ErrSign)
	checkVerify(t, public(t, one), msg, joined(sig[32:], sig[:32]), api.ErrSign)
	checkVerify(t, public(t, one), msg, sig, api.OK)
}

// wrong: bytes that aren't n, whatever stands behind them.
func wrong(n int) [][]byte {
	l := [][]byte{nil, {}, make([]byte, n-1, 2*n), make([]byte, 0, n), make([]byte, 256+n), make([]byte, 1<<16+n), make([]byte, 1<<20)}
	for i := range 3 * n {
		if i != n {
			l = append(l, some(i, 3))
		}
	}
	return l
}

func TestLengthsOfSeeds(t *testing.T) {
	for _, seed := range wrong(32) {
		if b, e := edwards.Public(seed); e != api.ErrLen || b != nil {
			t.Errorf("a seed of %d bytes: key %X, %d", len(seed), b, e)
		}
		for _, msg := range [][]byte{nil, some(32, 1)} {
			if b, e := edwards.Sign(seed, msg); e != api.ErrLen || b != nil {
				t.Errorf("a seed of %d bytes: signature %X, %d", len(seed), b, e)
			}
		}
	}
}

func TestLengthsOfPoints(t *testing.T) {
	point := public(t, some(32, 1))
	for _, b := range append(wrong(32), point[:31], joined(point, []byte{0}), joined(point, point)) {
		if edwards.Point(b) {
			t.Errorf("%d bytes are a point", len(b))
		}
	}
}

// A length is told ahead of all else.
func TestLengthsOfKeysAndSignatures(t *testing.T) {
	seed, msg := some(32, 1), some(9, 2)
	pub, sig := public(t, seed), sign(t, seed, msg)
	noPoint := append([]byte{2}, make([]byte, 31)...)
	noNumber := bytes.Repeat([]byte{0xFF}, 64)
	keys := append(wrong(32), pub[:31], joined(pub, []byte{0}), joined([]byte{0}, pub))
	for _, key := range keys {
		for _, s := range [][]byte{sig, noNumber, sig[:63], nil} {
			checkVerify(t, key, msg, s, api.ErrLen)
		}
	}
	sigs := append(wrong(64), sig[:63], sig[:32], joined(sig, []byte{0}), joined([]byte{0}, sig))
	for _, s := range sigs {
		for _, key := range [][]byte{pub, noPoint, pub[:31], nil} {
			checkVerify(t, key, msg, s, api.ErrLen)
		}
	}
	checkVerify(t, nil, nil, nil, api.ErrLen)
	checkVerify(t, sig, msg, pub, api.ErrLen)
}

// The room behind what is handed in doesn't count.
func TestRoomBehind(t *testing.T) {
	seed, msg := joined(some(32, 1), some(32, 9)), joined(some(9, 2), some(9, 8))
	pub, sig := public(t, seed[:32]), sign(t, seed[:32], msg[:9])
	if want := ed25519.Sign(ed25519.NewKeyFromSeed(some(32, 1)), some(9, 2)); !bytes.Equal(sig, want) {
		t.Errorf("with room behind: %X, not %X", sig, want)
	}
	checkVerify(t, joined(pub, seed)[:32], msg[:9], joined(sig, seed)[:64], api.OK)
	if !edwards.Point(joined(pub, seed)[:32]) {
		t.Error("with room behind: no point")
	}
}

// spots: bytes that may be a point's or not, with each bit 255: small numbers,
// those about the prime, at the ends, one for each bit, and draws.
func spots() [][]byte {
	var l [][]byte
	add := func(b []byte) { l = append(l, b, turned(b, 255)) }
	for d := range int64(100) {
		add(little(big.NewInt(d)))
		add(little(new(big.Int).Sub(prime(), big.NewInt(d))))
	}
	for d := range int64(19) {
		add(little(new(big.Int).Add(prime(), big.NewInt(d))))
	}
	for i := range 255 {
		add(turned(make([]byte, 32), i))
		add(turned(bytes.Repeat([]byte{0xFF}, 32), i))
	}
	for i := range uint64(200) {
		add(some(32, i))
	}
	for _, a := range append(small(), base()) {
		add(written(a))
	}
	return l
}

func TestPoint(t *testing.T) {
	points, others := 0, 0
	for _, b := range spots() {
		_, want := read(b)
		if got := edwards.Point(b); got != want {
			t.Errorf("%X: %v, not %v", b, got, want)
		}
		if want {
			points++
		} else {
			others++
		}
	}
	if points < 500 || others < 500 {
		t.Error(points, "points,", others, "others")
	}
}

func TestPointAtTheEdges(t *testing.T) {
	for _, c := range []struct {
		why, b string
		want   bool
	}{
		{"nothing", "0100000000000000000000000000000000000000000000000000000000000000", true},
		{"an x of 0, bit 255", "0100000000000000000000000000000000000000000000000000000000000080", false},
		{"a y of -1", "ecffffffffffffffffffffffffffffffffffffffffffffffffffffffffffff7f", true},
		{"a y of -1, an x of 0, bit 255", "ecffffffffffffffffffffffffffffffffffffffffffffffffffffffffffffff", false},
		{"a y of 0", "0000000000000000000000000000000000000000000000000000000000000000", true},
		{"a y of 0, bit 255", "0000000000000000000000000000000000000000000000000000000000000080", true},
		{"an order of 8", "26e8958fc2b227b045c3f489f2ef98f0d5dfac05d3c63339b13802886d53fc05", true},
		{"an order of 8", "c7176a703d4dd84fba3c0b760d10670f2a2053fa2c39ccc64ec7fd7792ac03fa", true},
		{"y is the prime", "edffffffffffffffffffffffffffffffffffffffffffffffffffffffffffff7f", false},
		{"y is the prime, bit 255", "edffffffffffffffffffffffffffffffffffffffffffffffffffffffffffffff", false},
		{"1 more", "eeffffffffffffffffffffffffffffffffffffffffffffffffffffffffffff7f", false},
		{"1 more, bit 255", "eeffffffffffffffffffffffffffffffffffffffffffffffffffffffffffffff", false},
		{"3 more, which is a point's y", "f0ffffffffffffffffffffffffffffffffffffffffffffffffffffffffffff7f", false},
		{"all bits but 255", "ffffffffffffffffffffffffffffffffffffffffffffffffffffffffffffff7f", false},
		{"all bits", "ffffffffffffffffffffffffffffffffffffffffffffffffffffffffffffffff", false},
		{"no x fits", "0200000000000000000000000000000000000000000000000000000000000000", false},
		{"no x fits, bit 255", "0200000000000000000000000000000000000000000000000000000000000080", false},
		{"a y of 3", "0300000000000000000000000000000000000000000000000000000000000000", true},
		{"a y of 3, bit 255", "0300000000000000000000000000000000000000000000000000000000000080", true},
		{"the base", "5866666666666666666666666666666666666666666666666666666666666666", true},
		{"less the base", "58666666666666666666666666666666666666666666666666666666666666e6", true},
	} {
		if got := edwards.Point(unhex(t, c.b)); got != c.want {
			t.Errorf("%s: %v, not %v", c.why, got, c.want)
		}
	}
}

// A key that is no point's takes nothing: neither what would be signed if its y
// were taken modulo p, or its bit 255 left out, nor anything else.
func TestKeysThatAreNoPoints(t *testing.T) {
	nobody := make([]byte, 32)
	one := append([]byte{1}, nobody[1:]...)
	checkVerify(t, one, nil, joined(one, nobody), api.OK)
	sig := sign(t, some(32, 1), nil)
	for _, key := range spots() {
		if _, ok := read(key); ok {
			continue
		}
		checkVerify(t, key, nil, joined(key, nobody), api.ErrSign)
		checkVerify(t, key, nil, joined(one, nobody), api.ErrSign)
		checkVerify(t, key, nil, sig, api.ErrSign)
	}
	// Each of a small order that has other bytes, too, with all that could fit it.
	for _, key := range []string{
		"0100000000000000000000000000000000000000000000000000000000000080",
		"ecffffffffffffffffffffffffffffffffffffffffffffffffffffffffffffff",
		"edffffffffffffffffffffffffffffffffffffffffffffffffffffffffffff7f",
		"edffffffffffffffffffffffffffffffffffffffffffffffffffffffffffffff",
		"eeffffffffffffffffffffffffffffffffffffffffffffffffffffffffffff7f",
		"eeffffffffffffffffffffffffffffffffffffffffffffffffffffffffffffff",
	} {
		for _, a := range small() {
			for i := range 8 {
				checkVerify(t, unhex(t, key), some(i, 4), joined(written(a), nobody), api.ErrSign)
			}
		}
	}
}

// mod8: n modulo 8.
func mod8(n *big.Int) int { return int(n.Bit(0) + 2*n.Bit(1) + 4*n.Bit(2)) }

// A key may be a point of a small order: nothing less it, k times, is one of the
// eight, by k modulo L alone.
func TestKeysOfSmallOrders(t *testing.T) {
	l := small()
	numbers := []*big.Int{new(big.Int), big.NewInt(1), modulo(wide(some(32, 5))), new(big.Int).Sub(order(), big.NewInt(1))}
	taken, otherwise := 0, 0
	for _, s := range numbers {
		point := times(s, base())
		for i, a := range l {
			for j, more := range l {
				first, pub, msg := written(sum(point, more)), written(a), some(i+j, 6)
				k := hashed(first, pub, msg)
				want := api.ErrSign
				if (mod8(modulo(k))*i+j)%8 == 0 {
					want = api.OK
					taken++
				}
				if (mod8(k)*i+j)%8 == 0 && want != api.OK {
					otherwise++
				}
				checkVerify(t, pub, msg, joined(first, little(s)), want)
			}
		}
	}
	if taken < 20 || otherwise < 10 {
		t.Error(taken, "signatures were taken;", otherwise, "would be with the whole of k")
	}
}

// A key may be the sum of a seed's and a point of a small order: what that seed
// signs by it is taken just where k times the latter is made good in R.
func TestKeysOfMixedOrders(t *testing.T) {
	l := small()
	s, r := modulo(wide(some(32, 1))), modulo(wide(some(32, 2)))
	key, draw := times(s, base()), times(r, base())
	taken := 0
	for i, a := range l {
		pub := written(sum(key, a))
		for j, b := range l {
			first := written(sum(draw, b))
			for n := range 4 {
				msg := some(n, 3)
				want := api.ErrSign
				if (mod8(modulo(hashed(first, pub, msg)))*i+j)%8 == 0 {
					want = api.OK
					taken++
				}
				checkVerify(t, pub, msg, closed(r, s, first, pub, msg), want)
			}
		}
	}
	if taken < 20 {
		t.Error(taken, "signatures were taken")
	}
}

// R's bytes are held against those of the point itself: others that might be
// read as the same point aren't taken.
func TestOtherBytesOfR(t *testing.T) {
	nobody := make([]byte, 32)
	for _, c := range []struct{ first, other string }{
		{"0100000000000000000000000000000000000000000000000000000000000000", "0100000000000000000000000000000000000000000000000000000000000080"},
		{"0100000000000000000000000000000000000000000000000000000000000000", "eeffffffffffffffffffffffffffffffffffffffffffffffffffffffffffff7f"},
		{"ecffffffffffffffffffffffffffffffffffffffffffffffffffffffffffff7f", "ecffffffffffffffffffffffffffffffffffffffffffffffffffffffffffffff"},
		{"0000000000000000000000000000000000000000000000000000000000000000", "edffffffffffffffffffffffffffffffffffffffffffffffffffffffffffff7f"},
		{"0000000000000000000000000000000000000000000000000000000000000080", "edffffffffffffffffffffffffffffffffffffffffffffffffffffffffffffff"},
	} {
		first, other, taken := unhex(t, c.first), unhex(t, c.other), 0
		for i := range 40 {
			// The point of the key is that of R: 1 more than k times it must be nothing.
			msg := some(i, 1)
			want := verified(first, msg, joined(first, nobody))
			checkVerify(t, first, msg, joined(first, nobody), want)
			checkVerify(t, first, msg, joined(other, nobody), api.ErrSign)
			if want == api.OK {
				taken++
			}
		}
		if taken == 0 {
			t.Error(c.first, "was never taken")
		}
	}
}

// S is L or more: the same modulo L isn't taken.
func TestNumbersFromLOn(t *testing.T) {
	one := append([]byte{1}, make([]byte, 31)...)
	last := new(big.Int).Sub(order(), big.NewInt(1))
	checkVerify(t, one, nil, joined(written(times(last, base())), little(last)), api.OK)
	checkVerify(t, one, nil, joined(one, make([]byte, 32)), api.OK)
	for n := range int64(16) {
		many := new(big.Int).Mul(order(), big.NewInt(n))
		for _, d := range []int64{0, 1, 1 << 40} {
			s := new(big.Int).Add(many, big.NewInt(d))
			if s.BitLen() > 256 {
				continue
			}
			want := api.ErrSign
			if n == 0 {
				want = api.OK
			}
			checkVerify(t, one, nil, joined(written(times(big.NewInt(d), base())), little(s)), want)
		}
	}
	for i := range uint64(4) {
		seed, msg := some(32, i), some(5, i)
		pub, sig := public(t, seed), sign(t, seed, msg)
		s := wide(sig[32:])
		for n := 0; s.BitLen() <= 256; n++ {
			want := api.ErrSign
			if n == 0 {
				want = api.OK
			}
			checkVerify(t, pub, msg, joined(sig[:32], little(s)), want)
			s = new(big.Int).Add(s, order())
		}
	}
	checkVerify(t, one, nil, joined(one, little(order())), api.ErrSign)
	checkVerify(t, one, nil, joined(one, bytes.Repeat([]byte{0xFF}, 32)), api.ErrSign)
}

// P10.2: what is signed is taken, by that seed's key and that message, and by no
// other.
func TestWhatIsSignedIsTaken(t *testing.T) {
	for i := range uint64(150) {
		seed, msg := some(32, i+3000), some(int(i*i%977), i)
		pub, sig := public(t, seed), sign(t, seed, msg)
		checkVerify(t, pub, msg, sig, api.OK)
		if !ed25519.Verify(pub, msg, sig) {
			t.Fatalf("seed %X: the library doesn't take %X", seed, sig)
		}
		checkVerify(t, public(t, some(32, i+3001)), msg, sig, api.ErrSign)
		checkVerify(t, pub, append(msg, 0), sig, api.ErrSign)
	}
}

// What the library signs is taken, too.
func TestTakenFromLibrary(t *testing.T) {
	for i := range uint64(50) {
		secret, msg := ed25519.NewKeyFromSeed(some(32, i)), some(int(i), i)
		checkVerify(t, secret.Public().(ed25519.PublicKey), msg, ed25519.Sign(secret, msg), api.OK)
	}
}

// roomy: bytes with room behind them, and a check that neither has changed.
func roomy(t *testing.T, n int, seed uint64) ([]byte, func()) {
	whole := some(n+64, seed)
	return whole[:n], func() {
		t.Helper()
		if !bytes.Equal(whole, some(n+64, seed)) {
			t.Errorf("%d bytes handed in, or the room behind them, have changed", n)
		}
	}
}

func TestArgumentsStay(t *testing.T) {
	for _, n := range []int{0, 31, 32, 33, 64} {
		for _, m := range []int{0, 32, 63, 64, 200} {
			one, checkOne := roomy(t, n, 1)
			two, checkTwo := roomy(t, m, 2)
			msg, checkMsg := roomy(t, n+m, 3)
			edwards.Point(one)
			edwards.Public(one)
			edwards.Sign(one, msg)
			edwards.Verify(one, msg, two)
			checkOne()
			checkTwo()
			checkMsg()
		}
	}
	// Where all is right, too.
	seed, msg := some(32, 1), some(90, 2)
	pub, sig := joined(public(t, seed), some(64, 3)), joined(sign(t, seed, msg), some(64, 4))
	keptPub, keptSig := bytes.Clone(pub), bytes.Clone(sig)
	checkVerify(t, pub[:32], msg, sig[:64], api.OK)
	if !edwards.Point(pub[:32]) || !bytes.Equal(pub, keptPub) || !bytes.Equal(sig, keptSig) ||
		!bytes.Equal(seed, some(32, 1)) || !bytes.Equal(msg, some(90, 2)) {
		t.Error("what was handed in, or the room behind it, has changed")
	}
}

// Answers are new memory, and keep nothing of what was handed in.
func TestNothingShared(t *testing.T) {
	seed, msg := some(32, 1), some(32, 2)
	pub, sig := public(t, seed), sign(t, seed, msg)
	for _, call := range []func() []byte{
		func() []byte { return public(t, seed) },
		func() []byte { return sign(t, seed, msg) },
	} {
		want := bytes.Clone(call())
		b := call()
		clear(b[:cap(b)])
		if again := call(); !bytes.Equal(again, want) {
			t.Errorf("%X, then %X", want, again)
		}
	}
	clear(seed)
	clear(msg)
	if !bytes.Equal(pub, public(t, some(32, 1))) || !bytes.Equal(sig, sign(t, some(32, 1), some(32, 2))) {
		t.Error("an answer changed with what was handed in")
	}
}

// The same bytes may stand for several arguments, or overlap.
func TestSharedArguments(t *testing.T) {
	for i := range uint64(10) {
		seed := some(48, i)
		want := ed25519.Sign(ed25519.NewKeyFromSeed(seed[:32]), seed[16:])
		if sig := sign(t, seed[:32], seed[16:]); !bytes.Equal(sig, want) {
			t.Fatalf("seed %X: %X, not %X", seed, sig, want)
		}
		pub := public(t, seed[:32])
		sig := sign(t, seed[:32], pub)
		all := joined(pub, sig)
		checkVerify(t, all[:32], all[:32], all[32:], api.OK)
		checkVerify(t, all[32:64], all, all[32:], verified(all[32:64], all, all[32:]))
	}
}

// What was answered before changes nothing, errors neither.
func TestSameAgain(t *testing.T) {
	seed, msg := some(32, 1), some(8, 2)
	pub, sig := public(t, seed), sign(t, seed, msg)
	for i := range uint64(10) {
		edwards.Verify(pub, msg, turned(sig, int(i)))
		edwards.Verify(nil, msg, sig)
		edwards.Sign(nil, msg)
		edwards.Point(some(32, i))
		sign(t, some(32, i), some(8, i))
		checkVerify(t, pub, msg, sig, api.OK)
		if b := sign(t, seed, msg); !bytes.Equal(b, sig) {
			t.Fatalf("%X, not %X", b, sig)
		}
	}
}

func TestAskedAtOnce(t *testing.T) {
	msg := some(30, 2)
	var all sync.WaitGroup
	for i := range uint64(8) {
		seed := some(32, i)
		pub, sig := public(t, seed), ed25519.Sign(ed25519.NewKeyFromSeed(seed), msg)
		all.Go(func() {
			for range 5 {
				if b, e := edwards.Sign(seed, msg); e != api.OK || !bytes.Equal(b, sig) {
					t.Error("signed otherwise")
				}
				if b, e := edwards.Public(seed); e != api.OK || !bytes.Equal(b, pub) || !edwards.Point(pub) {
					t.Error("another key")
				}
				if e := edwards.Verify(pub, msg, sig); e != api.OK {
					t.Error("not taken")
				}
			}
		})
	}
	all.Wait()
}
