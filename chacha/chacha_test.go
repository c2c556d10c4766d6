package chacha_test

import (
	"bytes"
	"crypto/sha256"
	"encoding/binary"
	"encoding/hex"
	"math"
	"math/big"
	"slices"
	"strings"
	"sync"
	"testing"

	"cartouche/api"
	"cartouche/chacha"
)

// some: n bytes with no pattern to them, others for another seed.
func some(n int, seed uint64) []byte {
	b := make([]byte, n)
	state := seed*0x9E3779B97F4A7C15 + 611
	for i := range b {
		state = state*6364136223846793005 + 1442695040888963407
		b[i] = byte(state >> 56)
	}
	return b
}

func unhex(t *testing.T, s string) []byte {
	t.Helper()
	b, err := hex.DecodeString(s)
	if err != nil {
		t.Fatal(err)
	}
	return b
}

// from: n bytes, each one more than that ahead.
func from(first byte, n int) []byte {
	b := make([]byte, n)
	for i := range b {
		b[i] = first + byte(i)
	}
	return b
}

func block(t *testing.T, key []byte, counter uint32, nonce []byte) []byte {
	t.Helper()
	b, e := chacha.Block(key, counter, nonce)
	if e != api.OK {
		t.Fatal(e)
	}
	return b[:]
}

func xor(t *testing.T, key []byte, counter uint32, nonce, b []byte) []byte {
	t.Helper()
	out, e := chacha.Xor(key, counter, nonce, b)
	if e != api.OK || len(out) != len(b) {
		t.Fatalf("%d bytes of %d, %d", len(out), len(b), e)
	}
	return out
}

func poly(t *testing.T, key, msg []byte) []byte {
	t.Helper()
	b, e := chacha.Poly(key, msg)
	if e != api.OK {
		t.Fatal(e)
	}
	return b[:]
}

func seal(t *testing.T, key, nonce, along, plain []byte) []byte {
	t.Helper()
	b, e := chacha.Seal(key, nonce, along, plain)
	if e != api.OK {
		t.Fatal(e)
	}
	return b
}

const (
	sunscreen  = "Ladies and Gentlemen of the class of '99: If I could offer you only one tip for the future, sunscreen would be it."
	jabberwock = "'Twas brillig, and the slithy toves\nDid gyre and gimble in the wabe:\nAll mimsy were the borogoves,\nAnd the mome raths outgrabe."
	drafts     = "Internet-Drafts are draft documents valid for a maximum of six months and may be updated, replaced, or obsoleted by other documents at any time. It is inappropriate to use Internet-Drafts as reference material or to cite them other than as /\u201cwork in progress./\u201d"

	jabberwockKey = "1c9240a5eb55d38af333888604f6b5f0473917c1402b80099dca5cbc207075c0"
)

func zeros(n int) string { return strings.Repeat("00", n) }
func ones(n int) string  { return strings.Repeat("ff", n) }

// RFC 8439, 2.3.2, A.1, and the blocks of A.4.
func TestKnownBlocks(t *testing.T) {
	for i, c := range []struct {
		key     string
		counter uint32
		nonce   string
		want    string
	}{
		{hex.EncodeToString(from(0, 32)), 1, "000000090000004a00000000", "10f1e7e4d13b5915500fdd1fa32071c4c7d1f4c733c068030422aa9ac3d46c4ed2826446079faa0914c2d705d98b02a2b5129cd1de164eb9cbd083e8a2503c4e"},
		{zeros(32), 0, zeros(12), "76b8e0ada0f13d90405d6ae55386bd28bdd219b8a08ded1aa836efcc8b770dc7da41597c5157488d7724e03fb8d84a376a43b8f41518a11cc387b669b2ee6586"},
		{zeros(32), 1, zeros(12), "9f07e7be5551387a98ba977c732d080dcb0f29a048e3656912c6533e32ee7aed29b721769ce64e43d57133b074d839d531ed1f28510afb45ace10a1f4b794d6f"},
		{zeros(31) + "01", 1, zeros(12), "3aeb5224ecf849929b9d828db1ced4dd832025e8018b8160b82284f3c949aa5a8eca00bbb4a73bdad192b5c42f73f2fd4e273644c8b36125a64addeb006c13a0"},
		{"00ff" + zeros(30), 2, zeros(12), "72d54dfbf12ec44b362692df94137f328fea8da73990265ec1bbbea1ae9af0ca13b25aa26cb4a648cb9b9d1be65b2c0924a66c54d545ec1b7374f4872e99f096"},
		{zeros(32), 0, zeros(11) + "02", "c2c64d378cd536374ae204b9ef933fcd1a8b2288b3dfa49672ab765b54ee27c78a970e0e955c14f3a88e741b97c286f75f8fc299e8148362fa198a39531bed6d"},
		{zeros(31) + "01", 0, zeros(11) + "02", "ecfa254f845f647473d3cb140da9e87606cb33066c447b87bc2666dde3fbb739"},
		{jabberwockKey, 0, zeros(11) + "02", "965e3bc6f9ec7ed9560808f4d229f94b137ff275ca9b3fcbdd59deaad23310ae"},
	} {
		b := block(t, unhex(t, c.key), c.counter, unhex(t, c.nonce))
		if s := hex.EncodeToString(b); !strings.HasPrefix(s, c.want) {
			t.Errorf("%d: %s, not %s", i, s, c.want)
		}
	}
}

// RFC 8439, 2.4.2 and A.2, 3.
func TestKnownTexts(t *testing.T) {
	for i, c := range []struct {
		key     string
		counter uint32
		nonce   string
		text    string
		want    string
	}{
		{hex.EncodeToString(from(0, 32)), 1, "000000000000004a00000000", sunscreen, "6e2e359a2568f98041ba0728dd0d6981e97e7aec1d4360c20a27afccfd9fae0bf91b65c5524733ab8f593dabcd62b3571639d624e65152ab8f530c359f0861d807ca0dbf500d6a6156a38e088a22b65e52bc514d16ccf806818ce91ab77937365af90bbf74a35be6b40b8eedf2785e42874d"},
		{jabberwockKey, 42, zeros(11) + "02", jabberwock, "62e6347f95ed87a45ffae7426f27a1df5fb69110044c0d73118effa95b01e5cf166d3df2d721caf9b21e5fb14c616871fd84c54f9d65b283196c7fe4f60553ebf39c6402c42234e32a356b3e764312a61a5532055716ead6962568f87d3f3f7704c6a8d1bcd1bf4d50d6154b6da731b187b58dfd728afa36757a797ac188d1"},
	} {
		key, nonce := unhex(t, c.key), unhex(t, c.nonce)
		out := xor(t, key, c.counter, nonce, []byte(c.text))
		if s := hex.EncodeToString(out); s != c.want {
			t.Errorf("%d: %s, not %s", i, s, c.want)
		}
		if back := xor(t, key, c.counter, nonce, out); string(back) != c.text {
			t.Errorf("%d: twice it is %q", i, back)
		}
	}
}

// RFC 8439, 2.5.2 (the chapter's example) and A.3: the texts of the latter from
// the seventh on take h to the end of its range.
func TestKnownCodes(t *testing.T) {
	half := jabberwockKey[32:]
	one, two := "01"+zeros(15), "02"+zeros(15)
	four := "01" + zeros(7) + "04" + zeros(7)
	above := "e33594d7505e43b9" + zeros(8) + "3394d7505e4379cd" + "01" + zeros(7)
	for i, c := range []struct{ key, msg, want string }{
		{"85d6be7857556d337f4452fe42d506a80103808afb0db2fd4abff6af4149f51b", hex.EncodeToString([]byte("Cryptographic Forum Research Group")), "a8061dc1305136c6c22b8baf0c0127a9"},
		{zeros(32), zeros(64), zeros(16)},
		{zeros(16) + half, hex.EncodeToString([]byte(jabberwock)), half},
		{jabberwockKey, hex.EncodeToString([]byte(jabberwock)), "4541669a7eaaee61e708dc7cbcc5eb62"},
		{two + zeros(16), ones(16), "03" + zeros(15)},
		{two + ones(16), two, "03" + zeros(15)},
		{one + zeros(16), ones(16) + "f0" + ones(15) + "11" + zeros(15), "05" + zeros(15)},
		{one + zeros(16), ones(16) + "fb" + strings.Repeat("fe", 15) + strings.Repeat("01", 16), zeros(16)},
		{two + zeros(16), "fd" + ones(15), "fa" + ones(15)},
		{four + zeros(16), above + zeros(16) + one, "14" + zeros(7) + "55" + zeros(7)},
		{four + zeros(16), above + zeros(16), "13" + zeros(15)},
	} {
		if s := hex.EncodeToString(poly(t, unhex(t, c.key), unhex(t, c.msg))); s != c.want {
			t.Errorf("%d: %s, not %s", i, s, c.want)
		}
	}
}

// RFC 8439, 2.8.2 and A.5.
func TestKnownSeals(t *testing.T) {
	for i, c := range []struct{ key, nonce, along, plain, first, tag string }{
		{hex.EncodeToString(from(0x80, 32)), "070000004041424344454647", "50515253c0c1c2c3c4c5c6c7", sunscreen, "d31a8d34648e60db7b86afbc53ef7ec2a4aded51296e08fea9e2b5a736ee62d63dbea45e8ca9671282fafb69da92728b1a71de0a9e060b2905d6a5b67ecd3b3692ddbd7f2d778b8c9803aee328091b58fab324e4fad675945585808b4831d7bc3ff4def08e4b7a9de576d26586cec64b6116", "1ae10b594f09e26a7e902ecbd0600691"},
		{jabberwockKey, "000000000102030405060708", "f33388860000000000004e91", drafts, "64a0861575861af460f062c79be643bd5e805cfd345cf389f108670ac76c8cb2", "eead9d67890cbb22392336fea1851f38"},
	} {
		key, nonce, along := unhex(t, c.key), unhex(t, c.nonce), unhex(t, c.along)
		sealed := seal(t, key, nonce, along, []byte(c.plain))
		s := hex.EncodeToString(sealed)
		if len(sealed) != len(c.plain)+16 || !strings.HasPrefix(s, c.first) || !strings.HasSuffix(s, c.tag) {
			t.Errorf("%d: %s", i, s)
		}
		if plain, e := chacha.Open(key, nonce, along, sealed); e != api.OK || string(plain) != c.plain {
			t.Errorf("%d: opened as %q, %d", i, plain, e)
		}
	}
}

// turned: to the left, of 32 bits.
func turned(x uint64, n int) uint64 { return (x<<n | x>>(32-n)) % (1 << 32) }

// quarter: by the chapter's words.
func quarter(x []uint64, a, b, c, d int) {
	x[a] = (x[a] + x[b]) % (1 << 32)
	x[d] = turned(x[d]^x[a], 16)
	x[c] = (x[c] + x[d]) % (1 << 32)
	x[b] = turned(x[b]^x[c], 12)
	x[a] = (x[a] + x[b]) % (1 << 32)
	x[d] = turned(x[d]^x[a], 8)
	x[c] = (x[c] + x[d]) % (1 << 32)
	x[b] = turned(x[b]^x[c], 7)
}

// blockByWords: by the chapter's words; its columns and slopes are written out.
func blockByWords(key []byte, counter uint32, nonce []byte) []byte {
	all := slices.Concat([]byte("expand 32-byte k"), key, binary.LittleEndian.AppendUint32(nil, counter), nonce)
	var first []uint64
	for i := 0; i < 64; i += 4 {
		first = append(first, uint64(binary.LittleEndian.Uint32(all[i:])))
	}
	x := slices.Clone(first)
	for range 10 {
		quarter(x, 0, 4, 8, 12)
		quarter(x, 1, 5, 9, 13)
		quarter(x, 2, 6, 10, 14)
		quarter(x, 3, 7, 11, 15)
		quarter(x, 0, 5, 10, 15)
		quarter(x, 1, 6, 11, 12)
		quarter(x, 2, 7, 8, 13)
		quarter(x, 3, 4, 9, 14)
	}
	var out []byte
	for i := range x {
		out = binary.LittleEndian.AppendUint32(out, uint32((x[i]+first[i])%(1<<32)))
	}
	return out
}

// xorByWords: by the chapter's words.
func xorByWords(key []byte, counter uint32, nonce, b []byte) []byte {
	out := bytes.Clone(b)
	for i := range out {
		out[i] ^= blockByWords(key, counter+uint32(i/64), nonce)[i%64]
	}
	return out
}

// number: of bytes, the lowest first.
func number(b []byte) *big.Int {
	b = bytes.Clone(b)
	slices.Reverse(b)
	return new(big.Int).SetBytes(b)
}

// codeByWords: by the chapter's words.
func codeByWords(key, text []byte) []byte {
	kept := bytes.Clone(key[:16])
	for _, i := range []int{3, 7, 11, 15} {
		kept[i] &= 0x0F
	}
	for _, i := range []int{4, 8, 12} {
		kept[i] &= 0xFC
	}
	r, h := number(kept), new(big.Int)
	modulus := new(big.Int).Lsh(big.NewInt(1), 130)
	modulus.Sub(modulus, big.NewInt(5))
	for piece := range slices.Chunk(text, 16) {
		h.Add(h, number(append(bytes.Clone(piece), 1)))
		h.Mod(h.Mul(h, r), modulus)
	}
	h.Add(h, number(key[16:]))
	out := h.Mod(h, new(big.Int).Lsh(big.NewInt(1), 128)).FillBytes(make([]byte, 16))
	slices.Reverse(out)
	return out
}

// sealByWords: by the chapter's words.
func sealByWords(key, nonce, along, plain []byte) []byte {
	c := xorByWords(key, 1, nonce, plain)
	text := slices.Concat(along, make([]byte, (16-len(along)%16)%16), c, make([]byte, (16-len(c)%16)%16))
	text = binary.LittleEndian.AppendUint64(text, uint64(len(along)))
	text = binary.LittleEndian.AppendUint64(text, uint64(len(c)))
	return append(c, codeByWords(blockByWords(key, 0, nonce)[:32], text)...)
}

func checkBlock(t *testing.T, key []byte, counter uint32, nonce []byte) {
	t.Helper()
	if got, want := block(t, key, counter, nonce), blockByWords(key, counter, nonce); !bytes.Equal(got, want) {
		t.Fatalf("under %X, %d, %X: %X, not %X", key, counter, nonce, got, want)
	}
}

func checkXor(t *testing.T, key []byte, counter uint32, nonce, b []byte) {
	t.Helper()
	if got, want := xor(t, key, counter, nonce, b), xorByWords(key, counter, nonce, b); !bytes.Equal(got, want) {
		t.Fatalf("%d bytes from %d on: %X, not %X", len(b), counter, got, want)
	}
}

func checkCode(t *testing.T, key, msg []byte) {
	t.Helper()
	if got, want := poly(t, key, msg), codeByWords(key, msg); !bytes.Equal(got, want) {
		t.Fatalf("%d bytes under %X: %X, not %X", len(msg), key, got, want)
	}
}

// checkSeal: what is sealed is what the words say, and is opened as it was.
func checkSeal(t *testing.T, key, nonce, along, plain []byte) {
	t.Helper()
	sealed := seal(t, key, nonce, along, plain)
	if want := sealByWords(key, nonce, along, plain); !bytes.Equal(sealed, want) {
		t.Fatalf("%d along, %d plain: %X, not %X", len(along), len(plain), sealed, want)
	}
	checkBack(t, key, nonce, along, plain, sealed)
}

func checkBack(t *testing.T, key, nonce, along, plain, sealed []byte) {
	t.Helper()
	if back, e := chacha.Open(key, nonce, along, sealed); e != api.OK || !bytes.Equal(back, plain) {
		t.Fatalf("%d along, %d plain: opened otherwise, %d", len(along), len(plain), e)
	}
}

// counters: the ends of bytes', of a sign's and of all, and what lies between.
func counters() []uint32 {
	return []uint32{0, 1, 2, 255, 256, 65535, 65536, 1<<24 - 1, 1 << 24, math.MaxInt32, 1 << 31, 0xDEADBEEF, math.MaxUint32 - 1, math.MaxUint32}
}

func TestBlocks(t *testing.T) {
	for _, counter := range counters() {
		for i := range uint64(50) {
			checkBlock(t, some(32, i), counter, some(12, i+1))
		}
		checkBlock(t, make([]byte, 32), counter, make([]byte, 12))
		checkBlock(t, bytes.Repeat([]byte{0xFF}, 32), counter, bytes.Repeat([]byte{0xFF}, 12))
	}
	for i := range 32 {
		checkBlock(t, make([]byte, 32), 1<<i, make([]byte, 12))
	}
}

// Each bit of a key and of a nonce has its place in the block.
func TestBlockBits(t *testing.T) {
	key, nonce := some(32, 1), some(12, 2)
	seen := map[string]bool{}
	for _, part := range [][]byte{key, nonce} {
		eachTurned(part, func(int) {
			checkBlock(t, key, 7, nonce)
			seen[string(block(t, key, 7, nonce))] = true
		})
	}
	if len(seen) != 8*(32+12) {
		t.Errorf("%d blocks", len(seen))
	}
}

func TestXor(t *testing.T) {
	for n := range 330 {
		checkXor(t, some(32, uint64(n)), uint32(n*n), some(12, 1), some(n, 2))
	}
	for _, counter := range counters() {
		for _, n := range []int{0, 1, 63, 64, 65, 127, 128, 129, 200} {
			checkXor(t, some(32, 1), counter, some(12, 2), some(n, 3))
		}
	}
}

// Behind the last counter stands 0, and the nonce stays: sums are modulo 2^32.
func TestCountersWrap(t *testing.T) {
	key, nonce := some(32, 1), some(12, 2)
	out := xor(t, key, math.MaxUint32, nonce, make([]byte, 3*64))
	want := slices.Concat(block(t, key, math.MaxUint32, nonce), block(t, key, 0, nonce), block(t, key, 1, nonce))
	if !bytes.Equal(out, want) {
		t.Errorf("%X, not %X", out, want)
	}
}

// A text may be turned in pieces of whole blocks, and twice is not at all.
func TestXorInPieces(t *testing.T) {
	key, nonce, text := some(32, 1), some(12, 2), some(1000, 3)
	whole := xor(t, key, 5, nonce, text)
	for i := range uint32(15) {
		first := xor(t, key, 5, nonce, text[:64*i])
		second := xor(t, key, 5+i, nonce, text[64*i:])
		if !bytes.Equal(append(first, second...), whole) {
			t.Errorf("cut behind %d blocks: otherwise", i)
		}
	}
	if back := xor(t, key, 5, nonce, whole); !bytes.Equal(back, text) {
		t.Errorf("twice it is %X", back)
	}
}

func TestPoly(t *testing.T) {
	full := bytes.Repeat([]byte{0xFF}, 600)
	for n := range 300 {
		checkCode(t, some(32, uint64(n)), some(n, uint64(n+1)))
		checkCode(t, full[:32], full[:n])
		checkCode(t, full[:32], make([]byte, n))
		checkCode(t, append(make([]byte, 16), full[:16]...), full[:n])
		checkCode(t, append(bytes.Clone(full[:16]), make([]byte, 16)...), full[:n])
		checkCode(t, make([]byte, 32), some(n, 1))
	}
	for i := range uint64(500) {
		checkCode(t, some(32, i), some(320, i+1))
	}
}

// Each bit of a key, those too that r is without.
func TestPolyBits(t *testing.T) {
	for _, fill := range []byte{0, 0xFF} {
		key := bytes.Repeat([]byte{fill}, 32)
		eachTurned(key, func(int) {
			checkCode(t, key, some(55, 1))
			checkCode(t, key, bytes.Repeat([]byte{0xFF}, 48))
			checkCode(t, key, nil)
		})
	}
	key, text := some(32, 1), some(45, 2)
	want := poly(t, key, text)
	for i, mask := range []byte{3: 0xF0, 4: 0x03, 7: 0xF0, 8: 0x03, 11: 0xF0, 12: 0x03, 15: 0xF0} {
		key[i] ^= mask
		if got := poly(t, key, text); !bytes.Equal(got, want) {
			t.Errorf("byte %d: what r is without makes %X of %X", i, got, want)
		}
	}
}

// Where r is 1, h is the sum of the pieces: two of them come to each number from
// 2^130 - 41 to 2^130 - 2, on both sides of the modulus, and a third one follows.
func TestPolyAroundTheModulus(t *testing.T) {
	for _, s := range [][]byte{make([]byte, 16), bytes.Repeat([]byte{0xFF}, 16), some(16, 1)} {
		key := append([]byte{15: 0}, s...)
		key[0] = 1
		for less := range 40 {
			text := bytes.Repeat([]byte{0xFF}, 32)
			text[0] -= byte(less)
			checkCode(t, key, text)
			checkCode(t, key, append(text, make([]byte, 16)...))
			checkCode(t, key, append(text[:32], 5))
			for more := range 12 {
				checkCode(t, key, append(append(text[:32], byte(more)), make([]byte, 15)...))
			}
		}
	}
}

// Where the last piece ends is told: zeros behind it make another code.
func TestPolyEnds(t *testing.T) {
	key := some(32, 1)
	seen := map[string]bool{}
	for n := range 70 {
		seen[string(poly(t, key, make([]byte, n)))] = true
		one := append(make([]byte, n), 1)
		seen[string(poly(t, key, one))] = true
	}
	if len(seen) != 140 {
		t.Errorf("140 texts make %d codes", len(seen))
	}
	if got := poly(t, key, nil); !bytes.Equal(got, key[16:]) {
		t.Errorf("of nothing: %X", got)
	}
}

func TestSeal(t *testing.T) {
	for along := range 36 {
		for plain := range 36 {
			seed := uint64(along*100 + plain)
			checkSeal(t, some(32, seed), some(12, seed+1), some(along, seed+2), some(plain, seed+3))
		}
	}
	for _, n := range []int{47, 48, 49, 63, 64, 65, 127, 128, 129, 191, 192, 193, 255, 256, 257, api.MaxPlain, api.MaxPlain + 1, api.MaxPlain + 17, api.MaxMessage} {
		checkSeal(t, some(32, 1), some(12, 2), some(13, 3), some(n, 4))
		checkSeal(t, some(32, 1), some(12, 2), some(n, 3), some(13, 4))
	}
	for _, nonce := range [][]byte{make([]byte, 12), bytes.Repeat([]byte{0xFF}, 12)} {
		checkSeal(t, make([]byte, 32), nonce, nil, some(100, 1))
		checkSeal(t, bytes.Repeat([]byte{0xFF}, 32), nonce, some(100, 1), nil)
	}
}

// digest: the hash, by the library, of all that is told to it.
func digest(of func(tell func([]byte))) string {
	h := sha256.New()
	of(func(b []byte) { h.Write(b) })
	return hex.EncodeToString(h.Sum(nil))
}

// What OpenSSL 3.0 answers to the same, at all lengths, and for long texts, whose
// counters and lengths go over a byte's end and two bytes'.
func TestAsOthersAnswer(t *testing.T) {
	for _, c := range []struct {
		what, want string
		of         func(tell func([]byte))
	}{
		{"texts", "00445b2ab6ad83d4caaeaa27c7e03942d5bd9807867e5c0237cc814d44e2a45d", func(tell func([]byte)) {
			for _, counter := range []uint32{0, 1, 2, 255, 256, 65535, 65536, 1<<24 - 1, 1 << 24, 1<<31 - 1, 1 << 31, 1<<32 - 8} {
				for n := 0; n < 330; n += 3 {
					tell(xor(t, some(32, uint64(n)), counter, some(12, uint64(n)+1), some(n, uint64(n)+2)))
				}
			}
		}},
		{"codes", "e20ae6157cde2f6b7727f504ecd71c53d21e2e5e5dedf12a264c205154a20fab", func(tell func([]byte)) {
			for n := range 600 {
				tell(poly(t, some(32, uint64(n)), some(n, uint64(n)+1)))
			}
		}},
		{"seals", "0f9e35a893bfa8a2e7972ea6aa6aee22feb78fe899fc5a46f061a5437b40e17a", func(tell func([]byte)) {
			for along := range 36 {
				for plain := range 150 {
					seed := uint64(along*1000 + plain)
					tell(seal(t, some(32, seed), some(12, seed+1), some(along, seed+2), some(plain, seed+3)))
				}
			}
		}},
		{"long texts", "528dfcfd4fad976eea45da09aec66807d96100f08e3d1d09d3e28ecac9ec5709", func(tell func([]byte)) {
			for _, n := range []int{255, 256, 257, 4096, 64*255 + 1, 64 * 256, 65535, 65536, 65537, 64*65536 + 3} {
				tell(seal(t, some(32, 1), some(12, 2), some(13, 3), some(n, 4)))
				tell(seal(t, some(32, 1), some(12, 2), some(n, 3), some(13, 4)))
			}
		}},
	} {
		if got := digest(c.of); got != c.want {
			t.Errorf("%s: %s, not %s", c.what, got, c.want)
		}
	}
}

func TestThereAndBack(t *testing.T) {
	for n := range 400 {
		seed := uint64(n)
		key, nonce, along, plain := some(32, seed), some(12, seed+1), some(n%70, seed+2), some(n, seed+3)
		checkBack(t, key, nonce, along, plain, seal(t, key, nonce, along, plain))
	}
	plain := some(api.MaxData+100, 1)
	checkBack(t, some(32, 2), some(12, 3), plain, plain, seal(t, some(32, 2), some(12, 3), plain, plain))
}

func TestNoText(t *testing.T) {
	key, nonce := some(32, 1), some(12, 2)
	want := sealByWords(key, nonce, nil, nil)
	if len(want) != 16 {
		t.Fatal(len(want))
	}
	for _, along := range [][]byte{nil, {}} {
		for _, plain := range [][]byte{nil, {}} {
			if sealed := seal(t, key, nonce, along, plain); !bytes.Equal(sealed, want) {
				t.Errorf("%X", sealed)
			}
			xor(t, key, 3, nonce, plain)
			poly(t, key, plain)
		}
		if plain, e := chacha.Open(key, nonce, along, want); e != api.OK || len(plain) != 0 {
			t.Errorf("%X, %d", plain, e)
		}
	}
}

// refuse: a key or a nonce of another length is told by every call. ErrLen is
// named ahead of ErrSeal: it is told of what is too short, and of what no tag
// stands behind, too.
func refuse(t *testing.T, what string, key, nonce, sealed []byte) {
	t.Helper()
	if b, e := chacha.Block(key, 1, nonce); e != api.ErrLen || b != [64]byte{} {
		t.Errorf("%s: the block is %X, %d", what, b, e)
	}
	for _, text := range [][]byte{sealed, nil, {}, make([]byte, 15), make([]byte, 40)} {
		if b, e := chacha.Xor(key, 1, nonce, text); e != api.ErrLen || b != nil {
			t.Errorf("%s, %d bytes: turned to %X, %d", what, len(text), b, e)
		}
		if b, e := chacha.Seal(key, nonce, text, text); e != api.ErrLen || b != nil {
			t.Errorf("%s, %d bytes: sealed as %X, %d", what, len(text), b, e)
		}
		if b, e := chacha.Open(key, nonce, nil, text); e != api.ErrLen || b != nil {
			t.Errorf("%s, %d bytes: opened as %X, %d", what, len(text), b, e)
		}
		if b, e := chacha.Poly(key, text); len(key) != 32 && (e != api.ErrLen || b != [16]byte{}) {
			t.Errorf("%s, %d bytes: the code is %X, %d", what, len(text), b, e)
		}
	}
}

func TestLengthsOutOfRange(t *testing.T) {
	key, nonce := some(32, 1), some(12, 2)
	sealed := seal(t, key, nonce, nil, some(20, 3))
	for n := range 300 {
		if n != 32 {
			refuse(t, "another key", some(n, 1), nonce, sealed)
		}
		if n != 12 {
			refuse(t, "another nonce", key, some(n, 2), sealed)
		}
		if n != 32 && n != 12 {
			refuse(t, "another key and nonce", some(n, 1), some(n, 2), sealed)
		}
	}
	refuse(t, "no key", nil, nonce, sealed)
	refuse(t, "no nonce", key, nil, sealed)
	refuse(t, "neither", nil, nil, sealed)
	refuse(t, "the one for the other", nonce, key, sealed)
	refuse(t, "room behind a key", make([]byte, 31, 32), nonce, sealed)
	refuse(t, "room behind a nonce", key, make([]byte, 11, 12), sealed)
	refuse(t, "a longer key", make([]byte, 32+1<<16), nonce, sealed)
	refuse(t, "a longer nonce", key, make([]byte, 12+1<<16), sealed)
}

func TestTooShort(t *testing.T) {
	key, nonce := some(32, 1), some(12, 2)
	tag := seal(t, key, nonce, nil, nil)
	for n := range 16 {
		for _, text := range [][]byte{tag[:n], tag[16-n:], make([]byte, n)} {
			if b, e := chacha.Open(key, nonce, nil, text); e != api.ErrSeal || b != nil {
				t.Errorf("%d bytes: %X, %d", n, b, e)
			}
		}
	}
	if b, e := chacha.Open(key, nonce, nil, nil); e != api.ErrSeal || b != nil {
		t.Errorf("nil: %X, %d", b, e)
	}
}

// eachTurned: for each bit of bytes, calls try with that bit turned.
func eachTurned(b []byte, try func(i int)) {
	for i := range 8 * len(b) {
		b[i/8] ^= 1 << (i % 8)
		try(i)
		b[i/8] ^= 1 << (i % 8)
	}
}

// Each bit turned of what is sealed, of its tag, the nonce, the text along or
// the key is told.
func TestTurned(t *testing.T) {
	for _, n := range []int{0, 1, 16, 37, 70} {
		key, nonce, along := some(32, 1), some(12, 2), some(n, 3)
		sealed := seal(t, key, nonce, along, some(n, 4))
		for _, part := range [][]byte{key, nonce, along, sealed} {
			eachTurned(part, func(i int) {
				if b, e := chacha.Open(key, nonce, along, sealed); e != api.ErrSeal || b != nil {
					t.Fatalf("%d of %d bytes, bit %d turned: %X, %d", len(part), n, i, b, e)
				}
			})
		}
		checkBack(t, key, nonce, along, some(n, 4), sealed)
	}
}

// What was cut, lengthened, or shared out otherwise is told; so are two bytes
// of a tag that changed places.
func TestCut(t *testing.T) {
	key, nonce, along, plain := some(32, 1), some(12, 2), some(21, 3), some(50, 4)
	sealed := seal(t, key, nonce, along, plain)
	refused := func(what string, along, sealed []byte) {
		t.Helper()
		if b, e := chacha.Open(key, nonce, along, sealed); e != api.ErrSeal || b != nil {
			t.Errorf("%s: %X, %d", what, b, e)
		}
	}
	for i := range sealed {
		refused("cut at the end", along, sealed[:i])
		refused("a byte left out", along, slices.Concat(sealed[:i], sealed[i+1:]))
		refused("a zero put in", along, slices.Concat(sealed[:i], []byte{0}, sealed[i:]))
		refused("gone over to the text along", slices.Concat(along, sealed[:i+1]), sealed[i+1:])
	}
	for i := range along {
		refused("along, cut", along[:i], sealed)
		refused("gone over to the sealed text", along[:i], slices.Concat(along[i:], sealed))
	}
	refused("lengthened", along, slices.Concat(sealed, []byte{0}))
	refused("along, lengthened", slices.Concat(along, []byte{0}), sealed)
	refused("nothing along", nil, sealed)
	swapped := bytes.Clone(sealed)
	n := len(swapped)
	swapped[n-1], swapped[n-2] = swapped[n-2], swapped[n-1]
	refused("changed places", along, swapped)
	refused("a tag of zeros", along, slices.Concat(sealed[:50], make([]byte, 16)))
	refused("a tag by another key", along, seal(t, some(32, 5), nonce, along, plain))
	refused("a tag by another nonce", along, seal(t, key, some(12, 5), along, plain))
	refused("the tag ahead", along, slices.Concat(sealed[50:], sealed[:50]))
	refused("not sealed", along, slices.Concat(plain, poly(t, block(t, key, 0, nonce)[:32], plain)))
}

// Zeros behind either text are not those that fill it up: each length makes
// another tag.
func TestSealedEnds(t *testing.T) {
	key, nonce := some(32, 1), some(12, 2)
	stream := xor(t, key, 1, nonce, make([]byte, 64))
	seen := map[string]bool{}
	for n := range 40 {
		for m := range 40 {
			// What is sealed of the stream itself is zeros.
			sealed := seal(t, key, nonce, make([]byte, n), stream[:m])
			seen[string(sealed[m:])] = true
		}
	}
	if len(seen) != 1600 {
		t.Errorf("1600 lengths make %d tags", len(seen))
	}
}

// roomy: bytes with room behind them, and a check that neither has changed.
func roomy(t *testing.T, n int, seed uint64) ([]byte, func()) {
	whole := some(n+64, seed)
	return whole[:n], func() {
		t.Helper()
		if !bytes.Equal(whole, some(n+64, seed)) {
			t.Errorf("%d bytes handed in, or the room behind them, have changed", n)
		}
	}
}

func TestArgumentsStay(t *testing.T) {
	for _, n := range []int{0, 1, 15, 16, 17, 63, 64, 100} {
		key, checkKey := roomy(t, 32, 1)
		nonce, checkNonce := roomy(t, 12, 2)
		along, checkAlong := roomy(t, n, 3)
		plain, checkPlain := roomy(t, n, 4)
		sealed := seal(t, key, nonce, along, plain)
		whole := append(bytes.Clone(sealed), some(64, 5)...)
		kept := bytes.Clone(whole)
		checkBack(t, key, nonce, along, plain, whole[:len(sealed)])
		chacha.Open(key, nonce, plain, whole[:len(sealed)/2])
		block(t, key, 9, nonce)
		xor(t, key, 9, nonce, plain)
		poly(t, key, plain)
		if !bytes.Equal(whole, kept) {
			t.Errorf("%d bytes: what is sealed, or the room behind it, has changed", n)
		}
		checkKey()
		checkNonce()
		checkAlong()
		checkPlain()
	}
}

// The answers share no memory with what was handed in, nor with each other.
func TestAnswersAreNew(t *testing.T) {
	for _, n := range []int{0, 1, 16, 100} {
		key, nonce, along, plain := some(32, 1), some(12, 2), some(n, 3), some(n, 4)
		sealed, again := seal(t, key, nonce, along, plain), seal(t, key, nonce, along, plain)
		kept := bytes.Clone(sealed)
		clear(again)
		out, other := xor(t, key, 1, nonce, plain), xor(t, key, 1, nonce, plain)
		clear(other)
		clear(plain)
		if !bytes.Equal(sealed, kept) || !bytes.Equal(out, kept[:n]) {
			t.Errorf("%d bytes: what is sealed or turned hangs on other bytes", n)
		}
		one, e := chacha.Open(key, nonce, along, sealed)
		two, _ := chacha.Open(key, nonce, along, sealed)
		clear(two)
		clear(sealed)
		if e != api.OK || !bytes.Equal(one, some(n, 4)) {
			t.Errorf("%d bytes: what is opened hangs on other bytes", n)
		}
	}
}

// The same bytes may stand for all arguments.
func TestSharedArguments(t *testing.T) {
	b := some(32, 1)
	checkSeal(t, b, b[:12], b, b)
	checkXor(t, b, 1, b[20:], b)
	checkCode(t, b, b)
	if _, e := chacha.Open(b, b[:12], b, b); e != api.ErrSeal {
		t.Error(e)
	}
}

// What was asked before changes nothing.
func TestSameAgain(t *testing.T) {
	key, nonce, along, plain := some(32, 1), some(12, 2), some(9, 3), some(170, 4)
	want := seal(t, key, nonce, along, plain)
	for i := range uint64(30) {
		seal(t, some(32, i), some(12, i), some(9, i), some(70, i))
		chacha.Open(some(32, i), nonce, along, want)
		chacha.Open(key[:31], nonce, along, want)
		if b := seal(t, key, nonce, along, plain); !bytes.Equal(b, want) {
			t.Fatalf("%d: %X", i, b)
		}
	}
}

func TestAskedAtOnce(t *testing.T) {
	key, nonce, along, plain := some(32, 1), some(12, 2), some(30, 3), some(100, 4)
	want := sealByWords(key, nonce, along, plain)
	var all sync.WaitGroup
	for range 8 {
		all.Go(func() {
			for range 50 {
				if b, e := chacha.Seal(key, nonce, along, plain); e != api.OK || !bytes.Equal(b, want) {
					t.Error("sealed otherwise")
				}
				if b, e := chacha.Open(key, nonce, along, want); e != api.OK || !bytes.Equal(b, plain) {
					t.Error("opened otherwise")
				}
			}
		})
	}
	all.Wait()
}

func BenchmarkSeal(b *testing.B) {
	key, nonce, plain := make([]byte, 32), make([]byte, 12), make([]byte, api.MaxPlain)
	b.SetBytes(int64(len(plain)))
	for b.Loop() {
		chacha.Seal(key, nonce, nil, plain)
	}
}

func BenchmarkPoly(b *testing.B) {
	key, text := make([]byte, 32), make([]byte, 1<<16)
	b.SetBytes(int64(len(text)))
	for b.Loop() {
		chacha.Poly(key, text)
	}
}
