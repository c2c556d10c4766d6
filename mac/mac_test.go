package mac_test

import (
	"bytes"
	"crypto/hkdf"
	"crypto/hmac"
	"crypto/sha256"
	"crypto/sha512"
	"encoding/hex"
	"hash"
	"math"
	"strings"
	"sync"
	"testing"

	"cartouche/api"
	"cartouche/mac"
)

// known are the kinds, and the library's hashes of the same name.
var known = []struct {
	kind, size, block int
	make              func() hash.Hash
}{
	{api.Sha256, 32, 64, sha256.New},
	{api.Sha384, 48, 128, sha512.New384},
	{api.Sha512, 64, 128, sha512.New},
}

var unknown = []int{0, -1, 1, 32, 224, 255, 257, 383, 511, 513, 1024, -256, math.MaxInt, math.MinInt, 256 + 1<<32}

// some: n bytes that are told apart.
func some(n, seed int) []byte {
	b := make([]byte, n)
	for i := range b {
		b[i] = byte(i*i*7 + i*seed + seed + i>>8)
	}
	return b
}

func unhex(t *testing.T, s string) []byte {
	t.Helper()
	b, err := hex.DecodeString(strings.ReplaceAll(s, " ", ""))
	if err != nil {
		t.Fatal(err)
	}
	return b
}

func same(t *testing.T, what string, got, want []byte) {
	t.Helper()
	if !bytes.Equal(got, want) {
		t.Fatalf("%s: %X, not %X", what, got, want)
	}
}

func libraryHmac(make func() hash.Hash, key []byte, parts ...[]byte) []byte {
	h := hmac.New(make, key)
	for _, part := range parts {
		h.Write(part)
	}
	return h.Sum(nil)
}

func TestHmacExample(t *testing.T) {
	want := unhex(t, "5BDCC146BF60754E6A042426089575C75A003F089D2739839DEC58B964EC3843")
	same(t, "one part", mac.Hmac(256, []byte("Jefe"), []byte("what do ya want for nothing?")), want)
}

// The texts of RFC 4231, by kinds 256, 384 and 512.
func TestHmacOfRfc4231(t *testing.T) {
	for i, c := range []struct {
		key, text []byte
		want      [3]string
	}{
		{bytes.Repeat([]byte{0x0B}, 20), []byte("Hi There"), [3]string{
			"b0344c61d8db38535ca8afceaf0bf12b881dc200c9833da726e9376c2e32cff7",
			"afd03944d84895626b0825f4ab46907f15f9dadbe4101ec682aa034c7cebc59cfaea9ea9076ede7f4af152e8b2fa9cb6",
			"87aa7cdea5ef619d4ff0b4241a1d6cb02379f4e2ce4ec2787ad0b30545e17cdedaa833b7d6b8a702038b274eaea3f4e4be9d914eeb61f1702e696c203a126854"}},
		{bytes.Repeat([]byte{0xAA}, 131), []byte("Test Using Larger Than Block-Size Key - Hash Key First"), [3]string{
			"60e431591ee0b67f0d8a26aacbf5b77f8e0bc6213728c5140546040f0ee37f54",
			"4ece084485813e9088d2c63a041bc5b44f9ef1012a2b588f3cd11f05033ac4c60c2ef6ab4030fe8296248df163f44952",
			"80b24263c7c1a3ebb71493c1dd7be8b49b46d1f41b4aeec1121b013783f8f3526b56d037e05f2598bd0fd2215d6a1e5295e64f73f63f0aec8b915a985d786598"}},
	} {
		for j, k := range known {
			if s := hex.EncodeToString(mac.Hmac(k.kind, c.key, c.text)); s != c.want[j] {
				t.Errorf("%d, %d: %s", i, k.kind, s)
			}
		}
	}
}

// Keys of all lengths around a block: the one as long as a block isn't hashed.
func TestHmacKeys(t *testing.T) {
	for _, k := range known {
		for n := range 2*k.block + 3 {
			key := some(n, k.kind)
			for _, length := range []int{0, 1, k.block - 1, k.block, 3*k.block + 5} {
				text := some(length, n)
				got := mac.Hmac(k.kind, key, text)
				if !bytes.Equal(got, libraryHmac(k.make, key, text)) {
					t.Fatalf("kind %d, a key of %d bytes, a text of %d: %X", k.kind, n, length, got)
				}
			}
		}
	}
}

// Zeros behind a short key change nothing; those that make it longer than a block do.
func TestHmacKeyFilledUp(t *testing.T) {
	for _, k := range known {
		key, text := some(5, 3), []byte("text")
		short := mac.Hmac(k.kind, key, text)
		same(t, "filled up", mac.Hmac(k.kind, append(key, make([]byte, k.block-5)...), text), short)
		if bytes.Equal(mac.Hmac(k.kind, append(key, make([]byte, k.block-4)...), text), short) {
			t.Errorf("kind %d: a key longer than a block isn't hashed", k.kind)
		}
		same(t, "no key", mac.Hmac(k.kind, nil, text), libraryHmac(k.make, nil, text))
		same(t, "an empty key", mac.Hmac(k.kind, []byte{}, text), libraryHmac(k.make, nil, text))
	}
}

// The message is all parts, however it is cut.
func TestHmacParts(t *testing.T) {
	for _, k := range known {
		key, text := some(17, 1), some(300, 2)
		want := libraryHmac(k.make, key, text)
		for i := 0; i <= len(text); i += 7 {
			same(t, "two parts", mac.Hmac(k.kind, key, text[:i], text[i:]), want)
			for j := i; j <= len(text); j += 41 {
				same(t, "three parts", mac.Hmac(k.kind, key, text[:i], text[i:j], text[j:]), want)
			}
		}
		var single [][]byte
		for i := range text {
			single = append(single, text[i:i+1], nil, []byte{})
		}
		same(t, "parts of a byte", mac.Hmac(k.kind, key, single...), want)
		none := libraryHmac(k.make, key)
		same(t, "no part", mac.Hmac(k.kind, key), none)
		same(t, "a nil list of parts", mac.Hmac(k.kind, key, [][]byte(nil)...), none)
		same(t, "empty parts", mac.Hmac(k.kind, key, nil, []byte{}, nil), none)
		if bytes.Equal(mac.Hmac(k.kind, key, text[9:], text[:9]), want) {
			t.Errorf("kind %d: the parts' order doesn't matter", k.kind)
		}
	}
}

func TestUnknownKinds(t *testing.T) {
	for _, kind := range unknown {
		if b := mac.Hmac(kind, []byte("key"), []byte("text")); b != nil {
			t.Errorf("Hmac, kind %d: %X", kind, b)
		}
		if b := mac.Hmac(kind, nil); b != nil {
			t.Errorf("Hmac of nothing, kind %d: %X", kind, b)
		}
		if b := mac.Extract(kind, []byte("salt"), []byte("in")); b != nil {
			t.Errorf("Extract, kind %d: %X", kind, b)
		}
		for _, n := range []int{0, 1, 32} {
			if b, e := mac.Expand(kind, []byte("secret"), nil, n); b != nil || e != api.ErrArg {
				t.Errorf("Expand, kind %d, %d bytes: %X, %d", kind, n, b, e)
			}
			if b, e := mac.Label(kind, []byte("secret"), "label", nil, n); b != nil || e != api.ErrArg {
				t.Errorf("Label, kind %d, %d bytes: %X, %d", kind, n, b, e)
			}
		}
	}
}

func TestEqual(t *testing.T) {
	for _, n := range []int{0, 1, 2, 31, 32, 33, 257} {
		a, b := some(n, 5), some(n, 5)
		if !mac.Equal(a, b) || !mac.Equal(a, a) {
			t.Errorf("%d bytes aren't equal to themselves", n)
		}
		for i := range b {
			for bit := range 8 {
				b[i] ^= 1 << bit
				if mac.Equal(a, b) || mac.Equal(b, a) {
					t.Fatalf("%d bytes, bit %d of byte %d turned: equal", n, bit, i)
				}
				b[i] ^= 1 << bit
			}
		}
		if mac.Equal(a, append(b, 0)) || mac.Equal(append(b, 0), a) || n > 0 && (mac.Equal(a, b[1:]) || mac.Equal(b[:n-1], a)) {
			t.Errorf("%d bytes are equal to more or fewer", n)
		}
	}
	// Differences that would be taken away by summing them up, or by xor of all.
	if mac.Equal([]byte{1, 2}, []byte{2, 1}) || mac.Equal([]byte{0x80, 0x80}, []byte{0, 0}) || mac.Equal([]byte{3, 3, 1}, []byte{0, 0, 1}) {
		t.Error("other bytes are equal")
	}
	if !mac.Equal(nil, nil) || !mac.Equal(nil, []byte{}) || !mac.Equal([]byte{}, nil) || mac.Equal(nil, []byte{0}) || mac.Equal([]byte{0}, nil) {
		t.Error("nothing is equal to nothing alone")
	}
}

func TestExtract(t *testing.T) {
	for _, k := range known {
		for _, n := range []int{0, 1, k.size, k.block, k.block + 1, 500} {
			for _, m := range []int{0, 1, k.size, 2 * k.block} {
				salt, in := some(n, 11), some(m, 13)
				want, err := hkdf.Extract(k.make, in, salt)
				if err != nil {
					t.Fatal(err)
				}
				same(t, "extract", mac.Extract(k.kind, salt, in), want)
			}
		}
		same(t, "no salt, nothing in", mac.Extract(k.kind, nil, nil), libraryHmac(k.make, nil))
	}
}

// The texts of RFC 5869 that are of SHA-256.
func TestExpandOfRfc5869(t *testing.T) {
	for i, c := range []struct {
		in, salt, info, secret, out string
	}{
		{"0b0b0b0b0b0b0b0b0b0b0b0b0b0b0b0b0b0b0b0b0b0b", "000102030405060708090a0b0c", "f0f1f2f3f4f5f6f7f8f9",
			"077709362c2e32df0ddc3f0dc47bba6390b6c73bb50f9c3122ec844ad7c2b3e5",
			"3cb25f25faacd57a90434f64d0362f2a2d2d0a90cf1a5a4c5db02d56ecc4c5bf34007208d5b887185865"},
		{hex.EncodeToString(from(0x00, 80)), hex.EncodeToString(from(0x60, 80)), hex.EncodeToString(from(0xB0, 80)),
			"06a6b88c5853361a06104c9ceb35b45cef760014904671014a193f40c15fc244",
			"b11e398dc80327a1c8e7f78c596a49344f012eda2d4efad8a050cc4c19afa97c59045a99cac7827271cb41c65e590e09da3275600c2f09b8367793a9aca3db71cc30c58179ec3e87c14c01d5c1f3434f1d87"},
		{"0b0b0b0b0b0b0b0b0b0b0b0b0b0b0b0b0b0b0b0b0b0b", "", "",
			"19ef24a32c717b167f33a91d6f648bdf96596776afdb6377ac434c1c293ccb04",
			"8da4e775a563c18f715f802a063c5a31b8a11f5c5ee1879ec3454e5f3c738d2d9d201395faa4b61a96c8"},
	} {
		secret := mac.Extract(256, unhex(t, c.salt), unhex(t, c.in))
		if s := hex.EncodeToString(secret); s != c.secret {
			t.Errorf("%d: the secret is %s", i, s)
		}
		out := unhex(t, c.out)
		b, e := mac.Expand(256, secret, unhex(t, c.info), len(out))
		if e != 0 || !bytes.Equal(b, out) {
			t.Errorf("%d: %X, %d", i, b, e)
		}
	}
}

// from: n bytes, each one more than that ahead.
func from(first byte, n int) []byte {
	b := make([]byte, n)
	for i := range b {
		b[i] = first + byte(i)
	}
	return b
}

func TestExpand(t *testing.T) {
	for _, k := range known {
		most := 255 * k.size
		for _, n := range []int{0, 1, k.size - 1, k.size, k.size + 1, 2 * k.size, 2*k.size + 1, 1000, most - k.size, most - 1, most} {
			for _, m := range []int{0, 1, 10, 200} {
				secret, info := some(k.size, n), some(m, n)
				want, err := hkdf.Expand(k.make, secret, string(info), n)
				if err != nil {
					t.Fatal(err)
				}
				b, e := mac.Expand(k.kind, secret, info, n)
				if e != 0 || !bytes.Equal(b, want) {
					t.Fatalf("kind %d, %d bytes, an info of %d: %X, %d", k.kind, n, m, b, e)
				}
			}
		}
		for _, n := range []int{-1, most + 1, most + k.size, 65535, 65536, math.MaxInt, math.MinInt, -most, 1 << 32, 1<<32 + 1} {
			if b, e := mac.Expand(k.kind, some(k.size, 1), nil, n); b != nil || e != api.ErrArg {
				t.Errorf("kind %d, %d bytes: %X, %d", k.kind, n, b, e)
			}
		}
	}
}

// Secrets of other lengths than the hash's: none, and longer than a block.
func TestExpandSecrets(t *testing.T) {
	for _, k := range known {
		for _, n := range []int{0, 1, k.block, k.block + 1, 700} {
			secret := some(n, 9)
			var want, last []byte
			for i := byte(1); i <= 4; i++ {
				last = libraryHmac(k.make, secret, last, []byte("info"), []byte{i})
				want = append(want, last...)
			}
			b, e := mac.Expand(k.kind, secret, []byte("info"), len(want)-3)
			if e != 0 || !bytes.Equal(b, want[:len(want)-3]) {
				t.Errorf("kind %d, a secret of %d bytes: %X, %d", k.kind, n, b, e)
			}
		}
	}
}

// RFC 8448, section 3: from no keys to the handshake's secret, and a key of the server's.
func TestLabelOfRfc8448(t *testing.T) {
	zeros := make([]byte, 32)
	early := mac.Extract(256, zeros, zeros)
	same(t, "early", early, unhex(t, "33ad0a1c607ec03b09e6cd9893680ce210adf300aa1f2660e1b22e10f170f92a"))
	empty := unhex(t, "e3b0c44298fc1c149afbf4c8996fb92427ae41e4649b934ca495991b7852b855")
	derived, e := mac.Label(256, early, "derived", empty, 32)
	if e != 0 {
		t.Fatal(e)
	}
	same(t, "derived", derived, unhex(t, "6f2615a108c702c5678f54fc9dbab69716c076189c48250cebeac3576c3611ba"))
	shared := unhex(t, "8bd4054fb55b9d63fdfbacf9f04b9f0d35e6d63f537563efd46272900f89492d")
	handshake := mac.Extract(256, derived, shared)
	same(t, "handshake", handshake, unhex(t, "1dc826e93606aa6fdc0aadc12f741b01046aa6b99f691ed221a9f0ca043fbeac"))
	key, e := mac.Label(256, unhex(t, "b67b7d690cc16c4e75e54213cb2d37b4e9c912bcded9105d42befd59d391ad38"), "key", nil, 16)
	if e != 0 {
		t.Fatal(e)
	}
	same(t, "key", key, unhex(t, "3fce516009c21727d0f2e4e86ee403bc"))
}

// info: what stands in a label's info, in the words of the chapter.
func info(label string, context []byte, n int) string {
	text := "tls13 " + label
	return string([]byte{byte(n / 256), byte(n % 256), byte(len(text))}) + text + string([]byte{byte(len(context))}) + string(context)
}

func TestLabel(t *testing.T) {
	for _, k := range known {
		secret := some(k.size, 21)
		for _, label := range []string{"", "a", "exp master", "\x00\xFF", strings.Repeat("l", 248), strings.Repeat("l", 249)} {
			for _, m := range []int{0, 1, 32, 254, 255} {
				context := some(m, 4)
				for _, n := range []int{0, 1, 12, 32, 255, 256, 257, 255 * k.size} {
					want, err := hkdf.Expand(k.make, secret, info(label, context, n), n)
					if err != nil {
						t.Fatal(err)
					}
					b, e := mac.Label(k.kind, secret, label, context, n)
					if e != 0 || !bytes.Equal(b, want) {
						t.Fatalf("kind %d, a label of %d bytes, a context of %d, %d bytes: %X, %d", k.kind, len(label), m, n, b, e)
					}
				}
			}
		}
	}
}

func TestLabelOutOfRange(t *testing.T) {
	for _, k := range known {
		for _, c := range []struct {
			label, context, n int
		}{
			{250, 0, 32}, {255, 0, 32}, {256, 0, 32}, {506, 0, 32}, {1 << 16, 0, 32},
			{0, 256, 32}, {0, 257, 32}, {0, 512, 32}, {0, 1 << 16, 32},
			{250, 256, 32}, {0, 256, 0}, {250, 0, 0},
			{0, 0, -1}, {0, 0, math.MinInt}, {0, 0, -65536}, {0, 0, 1 - 65536}, {0, 0, 255*k.size + 1},
			{0, 0, 65535}, {0, 0, 65536}, {0, 0, 65537}, {0, 0, 65536 + 32}, {0, 0, math.MaxInt}, {250, 256, -1},
		} {
			b, e := mac.Label(k.kind, some(k.size, 2), strings.Repeat("l", c.label), make([]byte, c.context), c.n)
			if b != nil || e != api.ErrArg {
				t.Errorf("kind %d, a label of %d bytes, a context of %d, %d bytes: %d bytes, %d", k.kind, c.label, c.context, c.n, len(b), e)
			}
		}
	}
}

// roomy: bytes with room behind them, and a check that neither has changed.
func roomy(t *testing.T, n, seed int) ([]byte, func()) {
	whole := some(n+64, seed)
	kept := bytes.Clone(whole)
	return whole[:n], func() {
		t.Helper()
		same(t, "what was handed in", whole, kept)
	}
}

func TestArgumentsStay(t *testing.T) {
	for _, k := range known {
		for _, n := range []int{0, 7, k.block, k.block + 40} {
			a, checkA := roomy(t, n, 1)
			b, checkB := roomy(t, 33, 2)
			c, checkC := roomy(t, 5, 3)
			parts := [][]byte{b, c, b, a}
			mac.Hmac(k.kind, a, parts...)
			same(t, "the parts", bytes.Join(parts, nil), bytes.Join([][]byte{b, c, b, a}, nil))
			mac.Extract(k.kind, a, b)
			mac.Expand(k.kind, a, b, 200)
			mac.Label(k.kind, a, "label", b, 200)
			mac.Equal(a, b)
			mac.Equal(b, b)
			checkA()
			checkB()
			checkC()
		}
	}
}

// The answers have memory of their own, and no room behind them.
func TestAnswersAreNew(t *testing.T) {
	ask := []func() []byte{
		func() []byte { return mac.Hmac(256, []byte("key"), []byte("text")) },
		func() []byte { return mac.Extract(384, []byte("salt"), []byte("in")) },
		func() []byte { b, _ := mac.Expand(512, []byte("secret"), []byte("info"), 64); return b },
		func() []byte { b, _ := mac.Expand(256, []byte("secret"), []byte("info"), 65); return b },
		func() []byte { b, _ := mac.Expand(256, []byte("secret"), []byte("info"), 0); return b },
		func() []byte { b, _ := mac.Label(256, []byte("secret"), "key", nil, 16); return b },
	}
	for i, f := range ask {
		one, other := f(), f()
		if cap(one) != len(one) {
			t.Errorf("%d: room of %d behind %d bytes", i, cap(one)-len(one), len(one))
		}
		kept := bytes.Clone(other)
		clear(one)
		same(t, "the other answer", other, kept)
		same(t, "the next answer", f(), kept)
	}
}

func TestAskedAtOnce(t *testing.T) {
	key, text := some(200, 1), some(500, 2)
	want := libraryHmac(sha256.New, key, text)
	var all sync.WaitGroup
	for range 8 {
		all.Go(func() {
			for range 20 {
				if !mac.Equal(mac.Hmac(256, key, text[:77], text[77:]), want) {
					t.Error("another code")
				}
				if _, e := mac.Label(256, key, "key", text[:200], 300); e != 0 {
					t.Error(e)
				}
			}
		})
	}
	all.Wait()
}
