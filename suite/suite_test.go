package suite_test

import (
	"bytes"
	libraryaes "crypto/aes"
	"crypto/cipher"
	"crypto/sha256"
	"encoding/hex"
	"math"
	"math/big"
	"slices"
	"sync"
	"testing"

	"cartouche/api"
	"cartouche/chacha"
	"cartouche/suite"
)

// suites: all there are, and what the chapter says of each.
var suites = []struct{ id, hash, keyLen int }{
	{0x1301, 256, 16},
	{0x1302, 384, 32},
	{0x1303, 256, 32},
}

// strangers: ids near to those of the suites, and at the ends of their range.
var strangers = []int{
	0, 1, -1, 0x1300, 0x1304, 0x1305, 0x0113, 0x0213, 0x0313, 0x13, 0x130, 0x13010, 0x11301, 0x11302, 0x11303,
	-0x1301, -0x1302, -0x1303, 0x1301 + 1<<32, 0x1302 + 1<<32, 0x1303 - 1<<32, 0x1301 + math.MinInt, 0x1303 + math.MinInt,
	api.Sha256, api.Sha384, api.X25519, api.P256, math.MaxInt, math.MinInt,
}

// numbers: of records: the first ones, those at the ends of bytes, the last ones.
func numbers() []uint64 {
	var all []uint64
	for i := range uint64(70) {
		all = append(all, i)
	}
	for i := range 64 {
		all = append(all, 1<<i, math.MaxUint64>>i)
	}
	return append(all, 0x0123456789ABCDEF)
}

// some: n bytes with no pattern to them, others for another seed.
func some(n int, seed uint64) []byte {
	b := make([]byte, n)
	state := seed*0x9E3779B97F4A7C15 + 611
	for i := range b {
		state = state*6364136223846793005 + 1442695040888963407
		b[i] = byte(state >> 56)
	}
	return b
}

func unhex(t *testing.T, s string) []byte {
	t.Helper()
	b, err := hex.DecodeString(s)
	if err != nil {
		t.Fatal(err)
	}
	return b
}

func suiteOf(t *testing.T, id int, key, iv []byte) *suite.Suite {
	t.Helper()
	x, e := suite.New(id, key, iv)
	if e != api.OK || x == nil {
		t.Fatalf("%X, a key of %d bytes, iv of %d: %d", id, len(key), len(iv), e)
	}
	return x
}

func seal(t *testing.T, x *suite.Suite, n uint64, along, plain []byte) []byte {
	t.Helper()
	b, e := x.Seal(n, along, plain)
	if e != api.OK {
		t.Fatal(e)
	}
	return b
}

func checkOpen(t *testing.T, x *suite.Suite, n uint64, along, sealed, want []byte) {
	t.Helper()
	if b, e := x.Open(n, along, sealed); e != api.OK || !bytes.Equal(b, want) {
		t.Fatalf("record %d, %d along, %d sealed: %X, %d, not %X", n, len(along), len(sealed), b, e, want)
	}
}

func refuse(t *testing.T, what string, x *suite.Suite, n uint64, along, sealed []byte) {
	t.Helper()
	if b, e := x.Open(n, along, sealed); e != api.ErrSeal || b != nil {
		t.Fatalf("%s: record %d, %d along, %d sealed: %X, %d", what, n, len(along), len(sealed), b, e)
	}
}

// nonce: by the chapter's words: the number's 96 bits xor those of iv.
func nonce(iv []byte, n uint64) []byte {
	sum := new(big.Int).SetUint64(n)
	return sum.Xor(sum, new(big.Int).SetBytes(iv)).FillBytes(make([]byte, 12))
}

// sealed: by the library's GCM, or by layer 7.
func sealed(t *testing.T, id int, key, iv []byte, n uint64, along, plain []byte) []byte {
	t.Helper()
	if id == 0x1303 {
		b, e := chacha.Seal(key, nonce(iv, n), along, plain)
		if e != api.OK {
			t.Fatal(e)
		}
		return b
	}
	c, err := libraryaes.NewCipher(key)
	if err != nil {
		t.Fatal(err)
	}
	g, err := cipher.NewGCM(c)
	if err != nil {
		t.Fatal(err)
	}
	return g.Seal(nil, nonce(iv, n), plain, along)
}

func TestHashAndKeyLen(t *testing.T) {
	for _, s := range suites {
		if got := suite.Hash(s.id); got != s.hash {
			t.Errorf("%X: hash %d, not %d", s.id, got, s.hash)
		}
		if got := suite.KeyLen(s.id); got != s.keyLen {
			t.Errorf("%X: a key of %d bytes, not %d", s.id, got, s.keyLen)
		}
	}
	if api.Aes128 != 0x1301 || api.Aes256 != 0x1302 || api.Chacha != 0x1303 {
		t.Error("the suites have other numbers")
	}
}

func TestNoSuite(t *testing.T) {
	all := slices.Clone(strangers)
	for id := range 0x10000 {
		if id < 0x1301 || id > 0x1303 {
			all = append(all, id)
		}
	}
	for _, id := range all {
		if h, n := suite.Hash(id), suite.KeyLen(id); h != 0 || n != 0 {
			t.Fatalf("%X: hash %d, a key of %d bytes", id, h, n)
		}
		for _, n := range []int{0, 16, 32} {
			if x, e := suite.New(id, make([]byte, n), make([]byte, 12)); e != api.ErrArg || x != nil {
				t.Fatalf("%X, a key of %d bytes: %v, %d", id, n, x, e)
			}
		}
		// ErrArg is named ahead of ErrLen.
		if x, e := suite.New(id, nil, nil); e != api.ErrArg || x != nil {
			t.Fatalf("%X: %v, %d", id, x, e)
		}
	}
}

func TestLengths(t *testing.T) {
	for _, s := range suites {
		check := func(key, iv []byte) {
			t.Helper()
			x, e := suite.New(s.id, key, iv)
			right := len(key) == s.keyLen && len(iv) == 12
			if right && (e != api.OK || x == nil) || !right && (e != api.ErrLen || x != nil) {
				t.Errorf("%X, a key of %d bytes, iv of %d: %v, %d", s.id, len(key), len(iv), x, e)
			}
		}
		for n := range 70 {
			for m := range 40 {
				check(some(n, 1), some(m, 2))
			}
		}
		for _, n := range []int{128, 256, s.keyLen + 256, s.keyLen + 1<<16, 1 << 20} {
			check(some(n, 1), some(12, 2))
		}
		for _, n := range []int{12 + 256, 12 + 1<<16, 1 << 20} {
			check(some(s.keyLen, 1), some(n, 2))
		}
		check(nil, some(12, 2))
		check(some(s.keyLen, 1), nil)
		check(nil, nil)
		// The room behind them doesn't count.
		check(make([]byte, s.keyLen-1, 64), make([]byte, 12))
		check(make([]byte, s.keyLen), make([]byte, 11, 64))
		check(make([]byte, s.keyLen, 64), make([]byte, 12, 64))
	}
}

func TestKnownNonces(t *testing.T) {
	zeros, ones := "000000000000000000000000", "ffffffffffffffffffffffff"
	for _, c := range []struct {
		iv   string
		n    uint64
		want string
	}{
		{zeros, 258, "000000000000000000000102"},
		{zeros, 0, zeros},
		{zeros, 1, "000000000000000000000001"},
		{zeros, 0x0123456789abcdef, "000000000123456789abcdef"},
		{zeros, math.MaxUint64, "00000000ffffffffffffffff"},
		{ones, 0, ones},
		{ones, 258, "fffffffffffffffffffffefd"},
		{ones, math.MaxUint64, "ffffffff0000000000000000"},
		{"e0459b3474bdd0e44a41c144", 654360564, "e0459b3474bdd0e46d417eb0"}, // RFC 9001, A.5
	} {
		for _, s := range suites {
			x := suiteOf(t, s.id, some(s.keyLen, 1), unhex(t, c.iv))
			if got := hex.EncodeToString(x.Nonce(c.n)); got != c.want {
				t.Errorf("%X, iv %s, record %d: %s, not %s", s.id, c.iv, c.n, got, c.want)
			}
		}
	}
}

// Each bit of iv is in its own place, under each number.
func TestNonces(t *testing.T) {
	for _, s := range suites {
		for i := range 100 {
			iv := some(12, uint64(i))
			if i < 96 {
				iv = make([]byte, 12)
				iv[i/8] = 1 << (i % 8)
			}
			x := suiteOf(t, s.id, some(s.keyLen, 1), iv)
			for _, n := range numbers() {
				if got, want := x.Nonce(n), nonce(iv, n); !bytes.Equal(got, want) {
					t.Fatalf("%X, iv %X, record %d: %X, not %X", s.id, iv, n, got, want)
				}
			}
		}
	}
}

// Records of TLS 1.3 and of QUIC that were published: RFC 8448, 3, of both
// sides; RFC 9001, A.5.
func TestKnownRecords(t *testing.T) {
	const (
		client, clientIv = "17422dda596ed5d9acd890e3c63f5051", "5b78923dee08579033e523d9"
		server, serverIv = "9f02283b6c9c07efc26bb9f2ac92e356", "cf782b88dd83549aadf1e984"
		quic, quicIv     = "c6d98ff3441c3fe1b2182094f69caa2ed4b716b65488960a7a984979fb23e1c8", "e0459b3474bdd0e44a41c144"

		text = "000102030405060708090a0b0c0d0e0f101112131415161718191a1b1c1d1e1f202122232425262728292a2b2c2d2e2f3031" + "17"
	)
	for i, c := range []struct {
		id                     int
		key, iv                string
		n                      uint64
		along, plain, enclosed string
	}{
		{api.Aes128, client, clientIv, 0, "1703030043", text, "a23f7054b62c94d0affafe8228ba55cbefacea42f914aa66bcab3f2b9819a8a5b46b395bd54a9a20441e2b62974e1f5a6292a2977014bd1e3deae63aeebb21694915e4"},
		{api.Aes128, client, clientIv, 1, "1703030013", "010015", "c9872760655666b74d7ff1153efd6db6d0b0e3"},
		{api.Aes128, server, serverIv, 1, "1703030043", text, "2e937e11ef4ac740e538ad36005fc4a46932fc3225d05f82aa1b36e30efaf97d90e6dffc602dcb501a59a8fcc49c4bf2e5f0a21c0047c2abf332540dd032e167c2955d"},
		{api.Aes128, server, serverIv, 2, "1703030013", "010015", "b58fd67166ebf599d24720cfbe7efa7a8864a9"},
		{api.Chacha, quic, quicIv, 654360564, "4200bff4", "01", "655e5cd55c41f69080575d7999c25a5bfb"},
	} {
		x := suiteOf(t, c.id, unhex(t, c.key), unhex(t, c.iv))
		along, plain := unhex(t, c.along), unhex(t, c.plain)
		b := seal(t, x, c.n, along, plain)
		if got := hex.EncodeToString(b); got != c.enclosed {
			t.Errorf("%d: %s, not %s", i, got, c.enclosed)
		}
		checkOpen(t, x, c.n, along, unhex(t, c.enclosed), plain)
	}
}

// Each suite's records, of many numbers and lengths, as OpenSSL 3.0 seals them:
// the hash of all of them, one behind the other.
func TestSealedAsByOpenssl(t *testing.T) {
	want := map[int]string{
		api.Aes128: "49ee3e36efac9d129afe5f37df34ef0f3b89d3916a7f6e0e82325bc5cb3fbfae",
		api.Aes256: "eb1cdc92fd4b9e1057a70a184cb353fac85d81d1cc45bd160f3b0f8276e0b7e8",
		api.Chacha: "d909faa3b558f963028ee339a9d1f40468055887f31c5bc6f7dc8f95cef1bb4e",
	}
	for _, s := range suites {
		x := suiteOf(t, s.id, some(s.keyLen, 1), some(12, 2))
		sum := sha256.New()
		for _, n := range numbers() {
			for _, length := range []int{0, 1, 15, 16, 17, 63, 64, 65, 100, 512, 769} {
				along, plain := some(length%19, uint64(length)+5), some(length, uint64(length)+9)
				b := seal(t, x, n, along, plain)
				sum.Write(b)
				checkOpen(t, x, n, along, b, plain)
			}
		}
		if got := hex.EncodeToString(sum.Sum(nil)); got != want[s.id] {
			t.Errorf("%X: %s, not %s", s.id, got, want[s.id])
		}
	}
}

// Other keys, other iv, other lengths, against the layers below or the library.
func TestSealedAsBelow(t *testing.T) {
	for _, s := range suites {
		for along := range 20 {
			for length := range 40 {
				seed := uint64(along*100 + length)
				key, iv, n := some(s.keyLen, seed), some(12, seed+1), seed*0x9E3779B97F4A7C15
				text, plain := some(along, seed+2), some(length, seed+3)
				x := suiteOf(t, s.id, key, iv)
				b, want := seal(t, x, n, text, plain), sealed(t, s.id, key, iv, n, text, plain)
				if !bytes.Equal(b, want) {
					t.Fatalf("%X, %d along, %d plain: %X, not %X", s.id, along, length, b, want)
				}
				checkOpen(t, x, n, text, want, plain)
			}
		}
		for _, length := range []int{api.MaxPlain, api.MaxPlain + 1, api.MaxMessage, 1 << 16} {
			key, iv, plain := some(s.keyLen, 1), some(12, 2), some(length, 3)
			x := suiteOf(t, s.id, key, iv)
			b := seal(t, x, math.MaxUint64, some(5, 4), plain)
			if !bytes.Equal(b, sealed(t, s.id, key, iv, math.MaxUint64, some(5, 4), plain)) {
				t.Errorf("%X, %d plain: another seal", s.id, length)
			}
			checkOpen(t, x, math.MaxUint64, some(5, 4), b, plain)
		}
	}
}

func TestNoText(t *testing.T) {
	for _, s := range suites {
		x := suiteOf(t, s.id, some(s.keyLen, 1), some(12, 2))
		want := sealed(t, s.id, some(s.keyLen, 1), some(12, 2), 9, nil, nil)
		for _, along := range [][]byte{nil, {}} {
			for _, plain := range [][]byte{nil, {}} {
				if b := seal(t, x, 9, along, plain); !bytes.Equal(b, want) || len(b) != 16 {
					t.Errorf("%X: %X", s.id, b)
				}
			}
			checkOpen(t, x, 9, along, want, nil)
		}
	}
}

// A record that was sealed as one number is opened as no other.
func TestOtherNumbers(t *testing.T) {
	for _, s := range suites {
		x := suiteOf(t, s.id, some(s.keyLen, 1), some(12, 2))
		plain := make([]byte, 16)
		seen, distinct := map[string]bool{}, map[uint64]bool{}
		for _, n := range numbers() {
			b := seal(t, x, n, nil, plain)
			seen[string(b[:16])], seen[string(b[16:])] = true, true
			distinct[n] = true
			for i := range 64 {
				refuse(t, "another number", x, n^1<<i, nil, b)
			}
			checkOpen(t, x, n, nil, b, plain)
		}
		if len(seen) != 2*len(distinct) {
			t.Errorf("%X: %d numbers make %d texts and tags", s.id, len(distinct), len(seen))
		}
	}
}

// turned: for each bit of bytes, calls try with that bit turned.
func turned(b []byte, try func()) {
	for i := range 8 * len(b) {
		b[i/8] ^= 1 << (i % 8)
		try()
		b[i/8] ^= 1 << (i % 8)
	}
}

// Each bit turned of what is sealed, of its tag, the text along, the key or iv
// is told.
func TestTurned(t *testing.T) {
	for _, s := range suites {
		for _, length := range []int{0, 1, 37} {
			key, iv, along := some(s.keyLen, 1), some(12, 2), some(length, 3)
			b := seal(t, suiteOf(t, s.id, key, iv), 7, along, some(length, 4))
			for _, part := range [][]byte{key, iv, along, b} {
				turned(part, func() {
					refuse(t, "turned", suiteOf(t, s.id, key, iv), 7, along, b)
				})
			}
			checkOpen(t, suiteOf(t, s.id, key, iv), 7, along, b, some(length, 4))
		}
	}
}

// What was cut, lengthened, or shared out otherwise is told.
func TestCut(t *testing.T) {
	for _, s := range suites {
		x := suiteOf(t, s.id, some(s.keyLen, 1), some(12, 2))
		along := some(21, 3)
		b := seal(t, x, 7, along, some(50, 4))
		for i := range b {
			refuse(t, "cut at the end", x, 7, along, b[:i])
			refuse(t, "cut at the beginning", x, 7, along, b[i+1:])
			refuse(t, "gone over to the text along", x, 7, append(bytes.Clone(along), b[:i+1]...), b[i+1:])
		}
		for i := range along {
			refuse(t, "along, cut", x, 7, along[:i], b)
			refuse(t, "gone over to the sealed text", x, 7, along[:i], append(bytes.Clone(along[i:]), b...))
		}
		refuse(t, "lengthened", x, 7, along, append(bytes.Clone(b), 0))
		refuse(t, "along, lengthened", x, 7, append(bytes.Clone(along), 0), b)
		refuse(t, "nil", x, 7, along, nil)
		refuse(t, "nil, nothing along", x, 7, nil, nil)
	}
}

func TestTooShort(t *testing.T) {
	for _, s := range suites {
		x := suiteOf(t, s.id, some(s.keyLen, 1), some(12, 2))
		tag := seal(t, x, 7, nil, nil)
		for length := range 16 {
			refuse(t, "a tag's beginning", x, 7, nil, tag[:length])
			refuse(t, "a tag's end", x, 7, nil, tag[16-length:])
			refuse(t, "zeros", x, 7, nil, make([]byte, length))
		}
	}
}

// The same key and iv seal otherwise in another suite.
func TestOtherSuite(t *testing.T) {
	key, iv := some(32, 1), some(12, 2)
	for _, s := range suites {
		b := seal(t, suiteOf(t, s.id, key[:s.keyLen], iv), 7, nil, some(40, 3))
		for _, other := range suites {
			if other.id != s.id {
				refuse(t, "another suite", suiteOf(t, other.id, key[:other.keyLen], iv), 7, nil, b)
			}
		}
	}
}

func TestNil(t *testing.T) {
	var x *suite.Suite
	for _, n := range numbers() {
		if b := x.Nonce(n); len(b) != 0 {
			t.Errorf("record %d: nonce %X", n, b)
		}
		for _, text := range [][]byte{nil, {}, make([]byte, 15), make([]byte, 16), some(40, 1)} {
			if b, e := x.Seal(n, text, text); e != api.ErrArg || b != nil {
				t.Errorf("record %d, %d bytes: sealed as %X, %d", n, len(text), b, e)
			}
			if b, e := x.Open(n, text, text); e != api.ErrArg || b != nil {
				t.Errorf("record %d, %d bytes: opened as %X, %d", n, len(text), b, e)
			}
		}
	}
}

// What a Suite answers that New didn't make isn't said: its calls end and don't
// panic.
func TestZeroSuiteEnds(t *testing.T) {
	var x suite.Suite
	for _, n := range numbers() {
		x.Nonce(n)
		x.Seal(n, some(5, 1), some(40, 2))
		x.Open(n, some(5, 1), some(40, 2))
		x.Open(n, nil, nil)
	}
}

// roomy: bytes with room behind them, and a check that neither has changed.
func roomy(t *testing.T, n int, seed uint64) ([]byte, func()) {
	whole := some(n+64, seed)
	return whole[:n], func() {
		t.Helper()
		if !bytes.Equal(whole, some(n+64, seed)) {
			t.Errorf("%d bytes handed in, or the room behind them, have changed", n)
		}
	}
}

func TestArgumentsStay(t *testing.T) {
	for _, s := range suites {
		for _, n := range []int{0, 1, 15, 16, 17, 63, 64, 100} {
			key, checkKey := roomy(t, s.keyLen, 1)
			iv, checkIv := roomy(t, 12, 2)
			along, checkAlong := roomy(t, n, 3)
			plain, checkPlain := roomy(t, n, 4)
			x := suiteOf(t, s.id, key, iv)
			x.Nonce(math.MaxUint64)
			b := seal(t, x, 7, along, plain)
			whole := append(bytes.Clone(b), some(64, 5)...)
			kept := bytes.Clone(whole)
			checkOpen(t, x, 7, along, whole[:len(b)], plain)
			refuse(t, "another number", x, 8, along, whole[:len(b)])
			refuse(t, "cut", x, 7, along, whole[:len(b)/2])
			if !bytes.Equal(whole, kept) {
				t.Errorf("%X, %d bytes: what is sealed, or the room behind it, has changed", s.id, n)
			}
			checkKey()
			checkIv()
			checkAlong()
			checkPlain()
		}
	}
}

// A suite keeps neither the key's bytes nor those of iv, and hands out none of
// its own.
func TestNothingShared(t *testing.T) {
	for _, s := range suites {
		key, iv := some(s.keyLen, 1), some(12, 2)
		x := suiteOf(t, s.id, key, iv)
		want := sealed(t, s.id, key, iv, 7, some(9, 3), some(40, 4))
		clear(key)
		clear(iv)
		for _, n := range []uint64{0, 7, math.MaxUint64} {
			one, other := x.Nonce(n), x.Nonce(n)
			clear(one[:cap(one)])
			if again := x.Nonce(n); !bytes.Equal(other, nonce(some(12, 2), n)) || !bytes.Equal(again, other) {
				t.Errorf("%X, record %d: %X, then %X", s.id, n, other, again)
			}
		}
		along, plain := some(9, 3), some(40, 4)
		b := seal(t, x, 7, along, plain)
		clear(seal(t, x, 7, along, plain))
		clear(along)
		clear(plain)
		if !bytes.Equal(b, want) {
			t.Errorf("%X: %X, not %X", s.id, b, want)
		}
		one, _ := x.Open(7, some(9, 3), b)
		other, e := x.Open(7, some(9, 3), b)
		clear(one)
		clear(b)
		if e != api.OK || !bytes.Equal(other, some(40, 4)) {
			t.Errorf("%X: %X, %d", s.id, other, e)
		}
	}
}

// The same bytes may stand for all arguments.
func TestSharedArguments(t *testing.T) {
	b := some(32, 1)
	for _, s := range suites {
		x := suiteOf(t, s.id, b[:s.keyLen], b[4:16])
		if got := seal(t, x, 7, b, b); !bytes.Equal(got, sealed(t, s.id, b[:s.keyLen], b[4:16], 7, b, b)) {
			t.Errorf("%X: %X", s.id, got)
		}
		refuse(t, "the key", x, 7, b, b)
	}
}

// A suite counts nothing: what it, or another one, answered before changes
// nothing, errors neither.
func TestSameAgain(t *testing.T) {
	for _, s := range suites {
		x := suiteOf(t, s.id, some(s.keyLen, 1), some(12, 2))
		want := seal(t, x, 7, some(9, 3), some(70, 4))
		for i := range uint64(30) {
			x.Nonce(i)
			seal(t, x, i, some(9, i), some(70, i))
			refuse(t, "another text", x, 7, some(9, i+10), want)
			seal(t, suiteOf(t, s.id, some(s.keyLen, i+5), some(12, i)), 7, nil, nil)
			if b := seal(t, x, 7, some(9, 3), some(70, 4)); !bytes.Equal(b, want) {
				t.Fatalf("%X, %d: %X, not %X", s.id, i, b, want)
			}
			checkOpen(t, x, 7, some(9, 3), want, some(70, 4))
		}
	}
}

func TestAskedAtOnce(t *testing.T) {
	for _, s := range suites {
		x := suiteOf(t, s.id, some(s.keyLen, 1), some(12, 2))
		along, plain := some(30, 3), some(100, 4)
		var all sync.WaitGroup
		for i := range uint64(8) {
			want := sealed(t, s.id, some(s.keyLen, 1), some(12, 2), i, along, plain)
			all.Go(func() {
				for range 30 {
					if b, e := x.Seal(i, along, plain); e != api.OK || !bytes.Equal(b, want) {
						t.Error("sealed otherwise")
					}
					if b, e := x.Open(i, along, want); e != api.OK || !bytes.Equal(b, plain) {
						t.Error("opened otherwise")
					}
				}
			})
		}
		all.Wait()
	}
}
