package ecdsa_test

import (
	"bytes"
	"math/big"
	"sync"
	"testing"

	"cartouche/api"
	"cartouche/ecdsa"
	"cartouche/weier"
)

// Signatures that OpenSSL 3.0 made, of all lengths that came about, one of them
// with a number of 31 bytes at each place.
func TestVerifyOpenssl(t *testing.T) {
	pub := unhex(t, "04ad2b6660d38a56a501f4fbf7e6b10963d11522c7eb0d95a19a0dfbada22a2bb351732b06682a91cd6163228dcefbd0d1a7773f339352a1c2497962404881e360")
	hundred := bytes.Repeat([]byte("cartouche"), 100)
	for _, c := range []struct {
		msg []byte
		sig string
	}{
		{nil, "30440220659490570bc5fb6e469ad8979964b5c6a1e5147e5bac6f67535340ad3549513e022013b0faa675130b1d996fa208a7bcd3cc01fc276fd0ef0e20f30219d68c32acaf"},
		{nil, "30450220569e9e9c5f5f21c1b475a0ea5f12ce8f8da5d80c1739fe0da8f8042213b99752022100e3b80ab3117276fbf18feca90dbe93ccd9870f8f7c4ca37ccc7a45f55d45a226"},
		{[]byte{}, "3045022100a0d3f394bac3bc95c13228e69a72e20b0e99ebcc46b91039b8cfd1846efcd6fb02203febfa3e9d120e40086bd9e168a361b6a045053bbe0a8184e2a035ecf5365916"},
		{[]byte{}, "3046022100836f7e8f1e9ec7b8d8439217dc4a884ea1efc8f59b77ee11a5c02eb11fcfa75102210080ba66c3b0759fc31499daf298c9c123a88b7e18fcd70e938e820e44709fd0d2"},
		{[]byte("a"), "304302200ce191f735bd8a7f3569465b7050c8320ab8aa3a50b5a7bc145eafe0fd23cc12021f1e65fe6eeff744e59ef3a3a242b169bd843a672d4ab64b4ed466140467c415"},
		{[]byte("a"), "3046022100c8f3175e88c126d0e526f6b7d6128de9640d85b8ac73b64883da444fe213bca902210093976401fbb9ff7a21c59c3188da37bf7f6e1aa48c233e4c0f272145a018fcfa"},
		{hundred, "3044021f569a4e39fcd6277cd44e453002968c79b9a63ca98df685f994bbcc9d3be657022100e5f0685698513d0e551227208cc1e059e80a08a592b3cda95159bea494d37fa1"},
		{hundred, "3044022100b95db66cca2c32d739416e122f72814407a2d38db86aed22be349f3f90e36a5f021f513f7c1127ae23308afa486b8043b645904aa348847e318b2bea8690d68fe5"},
	} {
		sig := unhex(t, c.sig)
		checkVerify(t, pub, c.msg, sig, api.OK)
		checkVerify(t, pub, joined(c.msg, []byte{0}), sig, api.ErrSign)
	}
}

// Keys made for a sum and two numbers: what is signed by them is taken, however
// small, or great, the numbers are, and where the sum's x isn't below n.
func TestVerifyMadeKeys(t *testing.T) {
	t.Parallel()
	n := order()
	points := []point{base(), mirror(base()), of(big.NewInt(5)), of(big.NewInt(6)), of(plus(n, -2)), of(plus(n, -3)), of(plus(n, 3)), of(plus(n, 4)), of(plus(prime(), -3)), times(wide(some(32, 1)), base())}
	for _, a := range points {
		r := new(big.Int).Mod(a.x, n)
		for _, s := range []*big.Int{big.NewInt(1), big.NewInt(2), power(255), plus(n, -1), wide(some(31, 3))} {
			for _, msg := range [][]byte{nil, []byte("sample"), []byte(overOrder)} {
				pub, sig := keyOf(keyFor(a, r, s, msg)), signature(r, s)
				checkVerify(t, pub, msg, sig, api.OK)
				checkVerify(t, pub, joined(msg, []byte("s")), sig, api.ErrSign)
				if a.x.Cmp(r) != 0 {
					checkVerify(t, pub, msg, signature(a.x, s), api.ErrSign)
				}
			}
		}
	}
}

// A sum whose x is r but for one bit is another one.
func TestVerifyEachBit(t *testing.T) {
	t.Parallel()
	n, s, msg := order(), wide(some(31, 4)), []byte("sample")
	a := times(wide(some(32, 5)), base())
	r := new(big.Int).Mod(a.x, n)
	checkVerify(t, keyOf(keyFor(a, r, s, msg)), msg, signature(r, s), api.OK)
	for i := range 256 {
		other := new(big.Int).Xor(r, power(uint(i)))
		if i%7 == 0 && other.Sign() > 0 && other.Cmp(n) < 0 {
			checkVerify(t, keyOf(keyFor(a, other, s, msg)), msg, signature(other, s), api.ErrSign)
		}
	}
}

// A sum of two equal points, and of two that mirror each other.
func TestVerifyMeeting(t *testing.T) {
	n := order()
	for i := range uint64(5) {
		msg := some(int(i), i)
		z := number(msg)
		k := wide(some(31, i))
		r := new(big.Int).Mod(times(k, base()).x, n)
		// z/s and r d/s are the same, half of k.
		key, s := times(ratio(z, r, n), base()), ratio(product(big.NewInt(2), z, n), k, n)
		checkVerify(t, keyOf(key), msg, signature(r, s), api.OK)
		checkVerify(t, keyOf(mirror(key)), msg, signature(r, s), api.ErrSign)
		for _, s := range []*big.Int{big.NewInt(1), s, plus(n, -1)} {
			checkVerify(t, keyOf(mirror(key)), msg, signature(r, s), api.ErrSign)
			checkVerify(t, keyOf(mirror(times(ratio(z, big.NewInt(1), n), base()))), msg, signature(big.NewInt(1), s), api.ErrSign)
		}
	}
}

// Of the one at infinity there is no x: an x of 0 isn't told from it by r, which
// is never 0.
func TestVerifyNothing(t *testing.T) {
	n, zero := order(), of(new(big.Int))
	for _, s := range []*big.Int{big.NewInt(1), big.NewInt(7), plus(n, -1)} {
		for _, r := range []*big.Int{new(big.Int), n} {
			checkVerify(t, keyOf(zero), []byte("sample"), signature(r, s), api.ErrSign)
			checkVerify(t, keyOf(zero), []byte("sample"), signature(s, r), api.ErrSign)
		}
	}
}

// The mirrored s gives the mirrored sum, of the same x.
func TestVerifyMirrored(t *testing.T) {
	t.Parallel()
	for i, k := range secrets() {
		msg := some(i, 9)
		r, s, e := decoded(sign(t, k, msg))
		if e != api.OK {
			t.Fatalf("%X: %d", k, e)
		}
		mirrored := new(big.Int).Sub(order(), s)
		checkVerify(t, public(t, k), msg, signature(r, mirrored), api.OK)
		checkVerify(t, public(t, k), msg, ecdsa.Encode(num(r), num(mirrored)), api.OK)
		checkVerify(t, public(t, k), msg, signature(new(big.Int).Sub(order(), r), s), api.ErrSign)
		checkVerify(t, public(t, k), msg, signature(s, r), api.ErrSign)
		other := mirror(point{wide(public(t, k)[1:33]), wide(public(t, k)[33:])})
		checkVerify(t, keyOf(other), msg, signature(r, s), api.ErrSign)
	}
}

// Any bit turned, in the key, the message or the signature.
func TestVerifyTurned(t *testing.T) {
	t.Parallel()
	k, msg := unhex(t, exampleSecret), []byte("sample")
	pub, sig := public(t, k), sign(t, k, msg)
	for i := range 8 * len(pub) {
		b := turned(pub, i)
		want := verified(b, msg, sig)
		checkVerify(t, b, msg, sig, want)
		if want == api.OK {
			t.Errorf("bit %d of the key doesn't count", i)
		}
	}
	for i := range 8 * len(msg) {
		checkVerify(t, pub, turned(msg, i), sig, api.ErrSign)
	}
	for i := range 8 * len(sig) {
		b := turned(sig, i)
		want := verified(pub, msg, b)
		checkVerify(t, pub, msg, b, want)
		if want == api.OK {
			t.Errorf("bit %d of the signature doesn't count", i)
		}
	}
}

// Whose key, and which message, a signature is of.
func TestVerifyOthers(t *testing.T) {
	t.Parallel()
	all := secrets()
	for i, k := range all {
		msg := some(20, uint64(i))
		sig := sign(t, k, msg)
		for j := range 4 {
			other := all[(i+3*j+1)%len(all)]
			checkVerify(t, public(t, other), msg, sig, api.ErrSign)
		}
		for _, wrong := range [][]byte{nil, {}, msg[:19], msg[1:], joined(msg, []byte{0}), joined([]byte{0}, msg), joined(msg, msg), some(20, 99)} {
			checkVerify(t, public(t, k), wrong, sig, api.ErrSign)
		}
	}
}

// noKeys: bytes that are no point's, and the error of each.
func noKeys(pub []byte) map[api.Errno][][]byte {
	x, y := pub[1:33], pub[33:]
	forms := [][]byte{nil, {}, {4}, {0}, pub[:64], pub[1:], joined(pub, []byte{0}), joined([]byte{0}, pub), joined([]byte{2}, x), joined([]byte{3}, x), joined([]byte{6}, x, y), make([]byte, 65), joined(pub, pub)}
	points := [][]byte{joined([]byte{4}, y, x), joined([]byte{4}, make([]byte, 64)), joined([]byte{4}, long(prime()), y), joined([]byte{4}, x, long(plus(power(256), -1)))}
	zero := of(new(big.Int))
	points = append(points, joined([]byte{4}, long(prime()), long(zero.y)), turned(pub, 100), turned(pub, 8*64))
	return map[api.Errno][][]byte{api.ErrForm: forms, api.ErrPoint: points}
}

// The key's error is told ahead of the signature's, that ahead of what neither
// of them tells by itself.
func TestVerifyErrors(t *testing.T) {
	k, msg := unhex(t, exampleSecret), []byte("sample")
	pub, sig := public(t, k), sign(t, k, msg)
	sigs := [][]byte{sig, nil, sig[:len(sig)-1], pair(), signature(new(big.Int), order()), signature(big.NewInt(1), big.NewInt(1))}
	for want, keys := range noKeys(pub) {
		for _, b := range keys {
			for _, sig := range sigs {
				checkVerify(t, b, msg, sig, want)
				checkVerify(t, b, nil, sig, want)
			}
		}
	}
	for _, c := range []struct {
		sig  []byte
		want api.Errno
	}{
		{nil, api.ErrForm},
		{[]byte{}, api.ErrForm},
		{sig[:len(sig)-1], api.ErrForm},
		{joined(sig, []byte{0}), api.ErrForm},
		{signature(new(big.Int), big.NewInt(1)), api.ErrSign},
		{signature(big.NewInt(1), new(big.Int)), api.ErrSign},
		{signature(order(), big.NewInt(1)), api.ErrSign},
		{signature(big.NewInt(1), order()), api.ErrSign},
		{signature(big.NewInt(1), big.NewInt(1)), api.ErrSign},
		{signature(power(256), big.NewInt(1)), api.ErrForm},
		{signature(big.NewInt(1), power(256)), api.ErrForm},
	} {
		checkVerify(t, pub, msg, c.sig, c.want)
	}
	checkVerify(t, nil, nil, nil, api.ErrForm)
	checkVerify(t, pub, nil, nil, api.ErrForm)
	checkVerify(t, pub, nil, sign(t, k, nil), api.OK)
	checkVerify(t, pub, []byte{}, sign(t, k, nil), api.OK)
}

// A number's 32 bytes aren't taken for another one's: r and n more, where these
// have 256 bits, too.
func TestVerifyNoOtherNumbers(t *testing.T) {
	a := of(big.NewInt(5))
	s := wide(some(31, 8))
	msg := []byte("sample")
	pub := keyOf(keyFor(a, a.x, s, msg))
	checkVerify(t, pub, msg, signature(a.x, s), api.OK)
	checkVerify(t, pub, msg, signature(plus(order(), 5), s), api.ErrSign)
	small := big.NewInt(3)
	pub = keyOf(keyFor(a, a.x, small, msg))
	checkVerify(t, pub, msg, signature(a.x, small), api.OK)
	checkVerify(t, pub, msg, signature(a.x, plus(order(), 3)), api.ErrSign)
}

// roomy: bytes with room behind them, and a check that neither has changed.
func roomy(t *testing.T, b []byte) ([]byte, func()) {
	whole := joined(b, some(96, 7))
	return whole[:len(b)], func() {
		t.Helper()
		if !bytes.Equal(whole, joined(b, some(96, 7))) {
			t.Errorf("%d bytes handed in, or the room behind them, have changed", len(b))
		}
	}
}

func TestArgumentsStay(t *testing.T) {
	secret, text := unhex(t, exampleSecret), []byte("sample")
	good, pub := sign(t, secret, text), public(t, secret)
	for _, c := range [][4][]byte{
		{secret, text, pub, good},
		{make([]byte, 32), nil, turned(pub, 50), good[1:]},
		{some(33, 1), some(100, 1), nil, pair(integer(big.NewInt(0)), integer(big.NewInt(5)))},
		{some(32, 1), []byte(secondDraw), pub, pair(integer(order()), integer(big.NewInt(5)))},
		{some(32, 2), some(64, 1), pub, pair(integer(big.NewInt(4)), integer(big.NewInt(5)))},
	} {
		k, checkK := roomy(t, c[0])
		msg, checkMsg := roomy(t, c[1])
		key, checkKey := roomy(t, c[2])
		sig, checkSig := roomy(t, c[3])
		ecdsa.Sign(k, msg)
		ecdsa.Decode(sig)
		ecdsa.Verify(key, msg, sig)
		checkK()
		checkMsg()
		checkKey()
		checkSig()
	}
}

// Answers are new memory, and keep nothing of what was handed in.
func TestNothingShared(t *testing.T) {
	k, msg := unhex(t, exampleSecret), []byte("sample")
	want := bytes.Clone(sign(t, k, msg))
	for _, call := range []func() []byte{
		func() []byte { return sign(t, k, msg) },
		func() []byte { r, s, _ := decoded(want); return ecdsa.Encode(num(r), num(s)) },
	} {
		b := call()
		clear(b[:cap(b)])
		if again := call(); !bytes.Equal(again, want) {
			t.Errorf("%X, then %X", want, again)
		}
	}
	b := sign(t, k, msg)
	clear(k)
	clear(msg)
	if !bytes.Equal(b, want) {
		t.Error("a signature changed with what was handed in")
	}
	one, two := sign(t, some(32, 1), nil), sign(t, some(32, 2), nil)
	if bytes.Equal(one, two) {
		t.Error("two secrets, one signature")
	}
}

// The same bytes may stand for several arguments.
func TestSharedArguments(t *testing.T) {
	k := unhex(t, exampleSecret)
	pub := public(t, k)
	for _, msg := range [][]byte{k, pub, pub[3:40]} {
		sig := sign(t, k, msg)
		if want := library(t, k, msg); !bytes.Equal(sig, want) {
			t.Errorf("%X, not %X", sig, want)
		}
		checkVerify(t, pub, msg, sig, api.OK)
		checkVerify(t, pub, sig, sig, api.ErrSign)
		checkVerify(t, sig, sig, sig, api.ErrForm)
		checkVerify(t, pub, msg, msg, api.ErrForm)
	}
}

// What was answered before changes nothing, errors neither.
func TestSameAgain(t *testing.T) {
	k, msg := some(32, 1), some(40, 1)
	pub, want := public(t, k), sign(t, k, msg)
	for i := range 10 {
		ecdsa.Sign(some(i, 1), msg)
		ecdsa.Sign(make([]byte, 32), nil)
		ecdsa.Decode(want[i:])
		ecdsa.Verify(pub, msg[i:], want)
		ecdsa.Verify(turned(pub, i), msg, want)
		weier.Order().Reduce(msg)
		sign(t, some(32, uint64(i)), msg)
		if b := sign(t, k, msg); !bytes.Equal(b, want) {
			t.Fatalf("%X, not %X", b, want)
		}
		checkVerify(t, pub, msg, want, api.OK)
	}
}

func TestAskedAtOnce(t *testing.T) {
	var all sync.WaitGroup
	for i := range uint64(8) {
		k, msg := some(32, i), some(int(i)*10, i)
		pub, want := public(t, k), sign(t, k, msg)
		all.Go(func() {
			for range 5 {
				if b, e := ecdsa.Sign(k, msg); e != api.OK || !bytes.Equal(b, want) {
					t.Error("signed otherwise")
				}
				if e := ecdsa.Verify(pub, msg, want); e != api.OK {
					t.Error("not taken:", e)
				}
			}
		})
	}
	all.Wait()
}
