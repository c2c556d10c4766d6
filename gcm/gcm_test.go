package gcm_test

import (
	"bytes"
	libraryaes "crypto/aes"
	"crypto/cipher"
	"encoding/hex"
	"math/big"
	"sync"
	"testing"

	"cartouche/aes"
	"cartouche/api"
	"cartouche/gcm"
)

// some: n bytes with no pattern to them, others for another seed.
func some(n int, seed uint64) []byte {
	b := make([]byte, n)
	state := seed*0x9E3779B97F4A7C15 + 611
	for i := range b {
		state = state*6364136223846793005 + 1442695040888963407
		b[i] = byte(state >> 56)
	}
	return b
}

func unhex(t *testing.T, s string) []byte {
	t.Helper()
	b, err := hex.DecodeString(s)
	if err != nil {
		t.Fatal(err)
	}
	return b
}

func keyOf(t *testing.T, key []byte) *aes.Key {
	t.Helper()
	k, e := aes.New(key)
	if e != api.OK {
		t.Fatal(e)
	}
	return k
}

// library: what the library seals.
func library(t *testing.T, key, nonce, along, plain []byte) []byte {
	t.Helper()
	c, err := libraryaes.NewCipher(key)
	if err != nil {
		t.Fatal(err)
	}
	g, err := cipher.NewGCM(c)
	if err != nil {
		t.Fatal(err)
	}
	return g.Seal(nil, nonce, plain, along)
}

// check: what is sealed is what the library seals, and is opened as it was.
func check(t *testing.T, key, nonce, along, plain []byte) {
	t.Helper()
	k := keyOf(t, key)
	sealed, e := gcm.Seal(k, nonce, along, plain)
	if want := library(t, key, nonce, along, plain); e != api.OK || !bytes.Equal(sealed, want) {
		t.Fatalf("a key of %d bytes, %d along, %d plain: %d, another seal", len(key), len(along), len(plain), e)
	}
	back, e := gcm.Open(k, nonce, along, sealed)
	if e != api.OK || !bytes.Equal(back, plain) {
		t.Fatalf("a key of %d bytes, %d along, %d plain: opened otherwise, %d", len(key), len(along), len(plain), e)
	}
}

const (
	knownKey   = "feffe9928665731c6d6a8f9467308308"
	knownNonce = "cafebabefacedbaddecaf888"
	knownAlong = "feedfacedeadbeeffeedfacedeadbeefabaddad2"
	knownPlain = "d9313225f88406e5a55909c5aff5269a86a7a9531534f7da2e4c303d8a318a721c3c0c95956809532fcf0e2449a6b525b16aedf5aa0de657ba637b391aafd255"
	zeros12    = "000000000000000000000000"
	zeros16    = "00000000000000000000000000000000"
)

// The test cases 1 to 4 and 13 to 16 of McGrew's and Viega's GCM, which SP
// 800-38D is of; the first one is the chapter's example.
func TestKnownAnswers(t *testing.T) {
	for i, c := range []struct{ key, nonce, along, plain, want string }{
		{zeros16, zeros12, "", "", "58e2fccefa7e3061367f1d57a4e7455a"},
		{zeros16, zeros12, "", zeros16, "0388dace60b6a392f328c2b971b2fe78" + "ab6e47d42cec13bdf53a67b21257bddf"},
		{knownKey, knownNonce, "", knownPlain, "42831ec2217774244b7221b784d0d49ce3aa212f2c02a4e035c17e2329aca12e21d514b25466931c7d8f6a5aac84aa051ba30b396a0aac973d58e091473f5985" + "4d5c2af327cd64a62cf35abd2ba6fab4"},
		{knownKey, knownNonce, knownAlong, knownPlain[:120], "42831ec2217774244b7221b784d0d49ce3aa212f2c02a4e035c17e2329aca12e21d514b25466931c7d8f6a5aac84aa051ba30b396a0aac973d58e091" + "5bc94fbc3221a5db94fae95ae7121a47"},
		{zeros16 + zeros16, zeros12, "", "", "530f8afbc74536b9a963b4f1c4cb738b"},
		{zeros16 + zeros16, zeros12, "", zeros16, "cea7403d4d606b6e074ec5d3baf39d18" + "d0d1c8a799996bf0265b98b5d48ab919"},
		{knownKey + knownKey, knownNonce, "", knownPlain, "522dc1f099567d07f47f37a32a84427d643a8cdcbfe5c0c97598a2bd2555d1aa8cb08e48590dbb3da7b08b1056828838c5f61e6393ba7a0abcc9f662898015ad" + "b094dac5d93471bdec1a502270e3cc6c"},
		{knownKey + knownKey, knownNonce, knownAlong, knownPlain[:120], "522dc1f099567d07f47f37a32a84427d643a8cdcbfe5c0c97598a2bd2555d1aa8cb08e48590dbb3da7b08b1056828838c5f61e6393ba7a0abcc9f662" + "76fc6ece0f4e1768cddf8853bb2d551b"},
	} {
		k := keyOf(t, unhex(t, c.key))
		nonce, along := unhex(t, c.nonce), unhex(t, c.along)
		sealed, e := gcm.Seal(k, nonce, along, unhex(t, c.plain))
		if s := hex.EncodeToString(sealed); e != api.OK || s != c.want {
			t.Errorf("%d: %s, %d, not %s", i, s, e, c.want)
		}
		plain, e := gcm.Open(k, nonce, along, unhex(t, c.want))
		if s := hex.EncodeToString(plain); e != api.OK || s != c.plain {
			t.Errorf("%d: opened as %s, %d", i, s, e)
		}
	}
}

// What those cases give of the hash: of nothing, of the sealed text alone, and
// of a text along too.
func TestKnownHashes(t *testing.T) {
	for i, c := range []struct{ h, along, sealed, want string }{
		{"66e94bd4ef8a2c3b884cfa59ca342b2e", "", "", zeros16},
		{"66e94bd4ef8a2c3b884cfa59ca342b2e", "", "0388dace60b6a392f328c2b971b2fe78", "f38cbb1ad69223dcc3457ae5b6b0f885"},
		{"b83b533708bf535d0aa6e52980d53b78", knownAlong, "42831ec2217774244b7221b784d0d49ce3aa212f2c02a4e035c17e2329aca12e21d514b25466931c7d8f6a5aac84aa051ba30b396a0aac973d58e091", "698e57f70e6ecc7fd9463b7260a9ae5f"},
	} {
		got := gcm.Hash([16]byte(unhex(t, c.h)), unhex(t, c.along), unhex(t, c.sealed))
		if s := hex.EncodeToString(got[:]); s != c.want {
			t.Errorf("%d: %s, not %s", i, s, c.want)
		}
	}
}

// coefficients: a block's bits, the highest of the first byte as that of x^0, in
// a number of which bit i is that of x^i.
func coefficients(b []byte) *big.Int {
	n := new(big.Int)
	for i := range 128 {
		n.SetBit(n, i, uint(b[i/8]>>(7-i%8)&1))
	}
	return n
}

// product: modulo x^128 + x^7 + x^2 + x + 1.
func product(a, b *big.Int) *big.Int {
	modulus := big.NewInt(1<<7 + 1<<2 + 1<<1 + 1)
	modulus.SetBit(modulus, 128, 1)
	p := new(big.Int)
	for i := range 128 {
		if b.Bit(i) == 1 {
			p.Xor(p, new(big.Int).Lsh(a, uint(i)))
		}
	}
	for i := p.BitLen() - 1; i >= 128; i-- {
		if p.Bit(i) == 1 {
			p.Xor(p, new(big.Int).Lsh(modulus, uint(i-128)))
		}
	}
	return p
}

// filled: with zeros, up to a block.
func filled(b []byte) []byte {
	return append(bytes.Clone(b), make([]byte, (16-len(b)%16)%16)...)
}

// hash: by the chapter's words.
func hash(h [16]byte, along, sealed []byte) [16]byte {
	all := append(filled(along), filled(sealed)...)
	for _, text := range [][]byte{along, sealed} {
		n := uint64(len(text)) * 8
		for i := 56; i >= 0; i -= 8 {
			all = append(all, byte(n>>i))
		}
	}
	y, by := new(big.Int), coefficients(h[:])
	for i := 0; i < len(all); i += 16 {
		y = product(y.Xor(y, coefficients(all[i:i+16])), by)
	}
	var out [16]byte
	for i := range 128 {
		out[i/8] |= byte(y.Bit(i)) << (7 - i%8)
	}
	return out
}

func checkHash(t *testing.T, h [16]byte, along, sealed []byte) {
	t.Helper()
	if got, want := gcm.Hash(h, along, sealed), hash(h, along, sealed); got != want {
		t.Fatalf("under %X, %d along, %d sealed: %X, not %X", h, len(along), len(sealed), got, want)
	}
}

func TestHash(t *testing.T) {
	h := [16]byte(some(16, 1))
	for n := range 50 {
		for m := range 50 {
			checkHash(t, h, some(n, uint64(m)), some(m, uint64(n)))
		}
	}
	for i := range uint64(50) {
		checkHash(t, [16]byte(some(16, i)), some(33, i), some(500, i))
	}
}

// Each bit of a key block, under each bit of a text's.
func TestHashBits(t *testing.T) {
	for i := range 128 {
		var h [16]byte
		h[i/8] = 1 << (i % 8)
		for j := range 128 {
			text := make([]byte, 16)
			text[j/8] = 1 << (j % 8)
			checkHash(t, h, text, nil)
		}
		checkHash(t, h, nil, bytes.Repeat([]byte{0xFF}, 20))
	}
	full := [16]byte(bytes.Repeat([]byte{0xFF}, 16))
	checkHash(t, full, full[:], full[:])
	checkHash(t, [16]byte{}, some(40, 1), some(40, 2))
	checkHash(t, [16]byte{0x80}, some(40, 1), some(40, 2))
}

// Where a text ends is told: zeros behind it, and bytes that go over from the
// one to the other, make another hash.
func TestHashEnds(t *testing.T) {
	h, text := [16]byte(some(16, 3)), some(64, 4)
	seen := map[[16]byte]bool{}
	for i := range len(text) + 1 {
		seen[gcm.Hash(h, text[:i], text[i:])] = true
	}
	if len(seen) != len(text)+1 {
		t.Errorf("%d cuts make %d hashes", len(text)+1, len(seen))
	}
	clear(seen)
	for n := range 40 {
		seen[gcm.Hash(h, make([]byte, n), nil)] = true
		seen[gcm.Hash(h, nil, make([]byte, n))] = true
	}
	if len(seen) != 79 { // of nothing there is one
		t.Errorf("zeros: %d hashes", len(seen))
	}
}

func TestSealedAsByTheLibrary(t *testing.T) {
	for _, n := range []int{16, 32} {
		for along := range 36 {
			for plain := range 52 {
				seed := uint64(along*100 + plain)
				check(t, some(n, seed), some(12, seed+1), some(along, seed+2), some(plain, seed+3))
			}
		}
		// Counters and lengths that go over a byte's, and two bytes', end.
		for _, length := range []int{255, 256, 512, 16 * 253, 16 * 254, 16*254 + 1, 16 * 256, 16*65534 + 5, api.MaxData + 100} {
			check(t, some(n, 1), some(12, 2), some(13, 3), some(length, 4))
			check(t, some(n, 1), some(12, 2), some(length, 3), some(13, 4))
		}
	}
}

// Nonces whose last bytes are full: the counter behind them carries nothing over.
func TestNonces(t *testing.T) {
	for _, nonce := range [][]byte{make([]byte, 12), bytes.Repeat([]byte{0xFF}, 12), some(12, 1)} {
		check(t, some(16, 1), nonce, some(5, 2), some(5000, 3))
		check(t, some(32, 1), nonce, nil, nil)
	}
	k := keyOf(t, some(16, 1))
	seen := map[string]bool{}
	for i := range 96 {
		nonce := make([]byte, 12)
		nonce[i/8] = 1 << (i % 8)
		sealed, e := gcm.Seal(k, nonce, nil, make([]byte, 16))
		if e != api.OK {
			t.Fatal(e)
		}
		seen[string(sealed[:16])] = true
		seen[string(sealed[16:])] = true
	}
	if len(seen) != 2*96 {
		t.Errorf("96 nonces make %d blocks and tags", len(seen))
	}
}

func TestNoText(t *testing.T) {
	k := keyOf(t, some(32, 1))
	nonce := some(12, 2)
	want := library(t, some(32, 1), nonce, nil, nil)
	for _, along := range [][]byte{nil, {}} {
		for _, plain := range [][]byte{nil, {}} {
			sealed, e := gcm.Seal(k, nonce, along, plain)
			if e != api.OK || !bytes.Equal(sealed, want) {
				t.Errorf("%X, %d", sealed, e)
			}
		}
		if plain, e := gcm.Open(k, nonce, along, want); e != api.OK || len(plain) != 0 {
			t.Errorf("%X, %d", plain, e)
		}
	}
}

func TestLengthsOutOfRange(t *testing.T) {
	k := keyOf(t, some(16, 1))
	sealed, e := gcm.Seal(k, some(12, 2), nil, some(20, 3))
	if e != api.OK {
		t.Fatal(e)
	}
	refuse := func(what string, k *aes.Key, nonce []byte) {
		t.Helper()
		if b, e := gcm.Seal(k, nonce, nil, some(20, 3)); e != api.ErrLen || b != nil {
			t.Errorf("%s: sealed as %X, %d", what, b, e)
		}
		// ErrLen is named ahead of ErrSeal: it is told of what is too short, and of
		// what no tag stands behind, too.
		for _, text := range [][]byte{sealed, nil, make([]byte, 15), make([]byte, 40)} {
			if b, e := gcm.Open(k, nonce, nil, text); e != api.ErrLen || b != nil {
				t.Errorf("%s, %d bytes: opened as %X, %d", what, len(text), b, e)
			}
		}
	}
	for n := range 300 {
		if n != 12 {
			refuse("another nonce", k, some(n, 2))
		}
	}
	refuse("no nonce", k, nil)
	refuse("room behind a nonce", k, make([]byte, 11, 12))
	refuse("a longer nonce", k, make([]byte, 12+1<<16))
	refuse("a nil key", nil, some(12, 2))
	refuse("a nil key, no nonce", nil, nil)
}

func TestTooShort(t *testing.T) {
	for _, n := range []int{16, 32} {
		k := keyOf(t, some(n, 1))
		tag, e := gcm.Seal(k, some(12, 2), nil, nil)
		if e != api.OK || len(tag) != 16 {
			t.Fatal(tag, e)
		}
		for length := range 16 {
			for _, text := range [][]byte{tag[:length], make([]byte, length), tag[16-length:]} {
				if b, e := gcm.Open(k, some(12, 2), nil, text); e != api.ErrSeal || b != nil {
					t.Errorf("%d bytes: %X, %d", length, b, e)
				}
			}
		}
		if b, e := gcm.Open(k, some(12, 2), nil, nil); e != api.ErrSeal || b != nil {
			t.Errorf("nil: %X, %d", b, e)
		}
	}
}

// turned: for each bit of bytes, calls try with that bit turned.
func turned(b []byte, try func(i int)) {
	for i := range 8 * len(b) {
		b[i/8] ^= 1 << (i % 8)
		try(i)
		b[i/8] ^= 1 << (i % 8)
	}
}

// Each bit turned of what is sealed, of its tag, the nonce, the text along or
// the key is told.
func TestTurned(t *testing.T) {
	for _, n := range []int{16, 32} {
		for _, length := range []int{0, 1, 16, 37} {
			key, nonce, along := some(n, 1), some(12, 2), some(length, 3)
			sealed, e := gcm.Seal(keyOf(t, key), nonce, along, some(length, 4))
			if e != api.OK {
				t.Fatal(e)
			}
			for _, part := range [][]byte{key, nonce, along, sealed} {
				turned(part, func(i int) {
					if b, e := gcm.Open(keyOf(t, key), nonce, along, sealed); e != api.ErrSeal || b != nil {
						t.Fatalf("%d of %d bytes, bit %d turned: %X, %d", len(part), length, i, b, e)
					}
				})
			}
			if b, e := gcm.Open(keyOf(t, key), nonce, along, sealed); e != api.OK || !bytes.Equal(b, some(length, 4)) {
				t.Fatalf("turned back: %X, %d", b, e)
			}
		}
	}
}

// What was cut, lengthened, or shared out otherwise is told; so are two bytes
// of a tag that changed places.
func TestCut(t *testing.T) {
	k, nonce, along := keyOf(t, some(16, 1)), some(12, 2), some(21, 3)
	sealed, e := gcm.Seal(k, nonce, along, some(50, 4))
	if e != api.OK {
		t.Fatal(e)
	}
	refuse := func(what string, along, sealed []byte) {
		t.Helper()
		if b, e := gcm.Open(k, nonce, along, sealed); e != api.ErrSeal || b != nil {
			t.Errorf("%s: %X, %d", what, b, e)
		}
	}
	for i := range sealed {
		refuse("cut at the end", along, sealed[:i])
		refuse("a byte left out", along, append(bytes.Clone(sealed[:i]), sealed[i+1:]...))
		refuse("a zero put in", along, append(append(bytes.Clone(sealed[:i]), 0), sealed[i:]...))
		refuse("gone over to the text along", append(bytes.Clone(along), sealed[:i+1]...), sealed[i+1:])
	}
	refuse("lengthened", along, append(bytes.Clone(sealed), 0))
	for i := range along {
		refuse("along, cut", along[:i], sealed)
		refuse("gone over to the sealed text", along[:i], append(bytes.Clone(along[i:]), sealed...))
	}
	refuse("along, lengthened", append(bytes.Clone(along), 0), sealed)
	refuse("nothing along", nil, sealed)
	swapped := bytes.Clone(sealed)
	n := len(swapped)
	swapped[n-1], swapped[n-2] = swapped[n-2], swapped[n-1]
	refuse("changed places", along, swapped)
	refuse("a tag of zeros", along, append(bytes.Clone(sealed[:50]), make([]byte, 16)...))
	other, _ := gcm.Seal(keyOf(t, some(32, 1)), nonce, along, some(50, 4))
	refuse("by another key", along, other)
}

// roomy: bytes with room behind them, and a check that neither has changed.
func roomy(t *testing.T, n int, seed uint64) ([]byte, func()) {
	whole := some(n+64, seed)
	return whole[:n], func() {
		t.Helper()
		if !bytes.Equal(whole, some(n+64, seed)) {
			t.Errorf("%d bytes handed in, or the room behind them, have changed", n)
		}
	}
}

func TestArgumentsStay(t *testing.T) {
	k := keyOf(t, some(32, 1))
	for _, n := range []int{0, 1, 15, 16, 17, 100} {
		nonce, checkNonce := roomy(t, 12, 1)
		along, checkAlong := roomy(t, n, 2)
		plain, checkPlain := roomy(t, n, 3)
		sealed, e := gcm.Seal(k, nonce, along, plain)
		if e != api.OK {
			t.Fatal(e)
		}
		whole := append(bytes.Clone(sealed), some(64, 4)...)
		kept := bytes.Clone(whole)
		gcm.Open(k, nonce, along, whole[:len(sealed)])
		gcm.Open(k, nonce, plain, whole[:len(sealed)])
		gcm.Open(k, nonce, along, whole[:len(sealed)/2])
		gcm.Hash([16]byte{1}, along, plain)
		if !bytes.Equal(whole, kept) {
			t.Errorf("%d bytes: what is sealed, or the room behind it, has changed", n)
		}
		checkNonce()
		checkAlong()
		checkPlain()
	}
}

// The answers share no memory with what was handed in, nor with each other.
func TestAnswersAreNew(t *testing.T) {
	k := keyOf(t, some(16, 1))
	for _, n := range []int{0, 1, 16, 100} {
		nonce, along, plain := some(12, 1), some(n, 2), some(n, 3)
		sealed, _ := gcm.Seal(k, nonce, along, plain)
		again, _ := gcm.Seal(k, nonce, along, plain)
		kept := bytes.Clone(sealed)
		clear(again)
		clear(plain)
		if !bytes.Equal(sealed, kept) {
			t.Errorf("%d bytes: what is sealed hangs on other bytes", n)
		}
		one, _ := gcm.Open(k, nonce, along, sealed)
		other, _ := gcm.Open(k, nonce, along, sealed)
		clear(other)
		clear(sealed)
		if !bytes.Equal(one, some(n, 3)) {
			t.Errorf("%d bytes: what is opened hangs on other bytes", n)
		}
	}
}

// The same bytes may stand for all arguments.
func TestSharedArguments(t *testing.T) {
	b := some(12, 1)
	check(t, some(16, 2), b, b, b)
	k := keyOf(t, some(16, 2))
	sealed, _ := gcm.Seal(k, b, nil, b)
	if _, e := gcm.Open(k, b, sealed, sealed); e != api.ErrSeal {
		t.Error(e)
	}
}

// What they answer by a key that aes.New didn't make isn't said: they end and
// don't panic.
func TestZeroKeyEnds(t *testing.T) {
	var k aes.Key
	gcm.Seal(&k, some(12, 1), some(5, 2), some(40, 3))
	gcm.Seal(&k, nil, nil, nil)
	gcm.Open(&k, some(12, 1), some(5, 2), some(40, 3))
	gcm.Open(&k, some(12, 1), nil, nil)
}

// What a key answered before changes nothing.
func TestSameAgain(t *testing.T) {
	k := keyOf(t, some(32, 1))
	want, _ := gcm.Seal(k, some(12, 1), some(9, 2), some(70, 3))
	for i := range uint64(30) {
		gcm.Seal(k, some(12, i), some(9, i), some(70, i))
		gcm.Open(k, some(12, i), some(9, i), some(70, i))
		if b, e := gcm.Seal(k, some(12, 1), some(9, 2), some(70, 3)); e != api.OK || !bytes.Equal(b, want) {
			t.Fatalf("%d: %X, %d", i, b, e)
		}
	}
}

func TestAskedAtOnce(t *testing.T) {
	k := keyOf(t, some(16, 1))
	nonce, along, plain := some(12, 2), some(30, 3), some(100, 4)
	want := library(t, some(16, 1), nonce, along, plain)
	var all sync.WaitGroup
	for range 8 {
		all.Go(func() {
			for range 50 {
				if b, e := gcm.Seal(k, nonce, along, plain); e != api.OK || !bytes.Equal(b, want) {
					t.Error("sealed otherwise")
				}
				if b, e := gcm.Open(k, nonce, along, want); e != api.OK || !bytes.Equal(b, plain) {
					t.Error("opened otherwise")
				}
			}
		})
	}
	all.Wait()
}

func BenchmarkSeal(b *testing.B) {
	k, _ := aes.New(make([]byte, 32))
	nonce, plain := make([]byte, 12), make([]byte, api.MaxPlain)
	b.SetBytes(int64(len(plain)))
	for b.Loop() {
		gcm.Seal(k, nonce, nil, plain)
	}
}

func BenchmarkHash(b *testing.B) {
	text := make([]byte, 1<<16)
	b.SetBytes(int64(len(text)))
	for b.Loop() {
		gcm.Hash([16]byte{1, 2, 3}, nil, text)
	}
}
