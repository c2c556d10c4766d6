package ecdsa_test

import (
	"bytes"
	"crypto"
	stdecdsa "crypto/ecdsa"
	"crypto/elliptic"
	"crypto/sha256"
	"encoding/asn1"
	"encoding/hex"
	"math/big"
	"testing"

	"cartouche/api"
	"cartouche/ecdsa"
	"cartouche/weier"
)

// exampleSecret is that of RFC 6979, A.2.5; the first draw of secondDraw by it
// is no secret (found by Go's makers); the number of overOrder is above the
// order.
const (
	exampleSecret = "C9AFA9D845BA75166B5C215767B1D6934E50C3DB36E89B127B8A622B120F6721"
	secondDraw    = "wv[vnX"
	overOrder     = "message 2493601830"
)

func unhex(t *testing.T, s string) []byte {
	t.Helper()
	b, err := hex.DecodeString(s)
	if err != nil {
		t.Fatal(err)
	}
	return b
}

func public(t *testing.T, k []byte) []byte {
	t.Helper()
	b, e := weier.Public(k)
	if e != api.OK || len(b) != 65 {
		t.Fatalf("Public(%X): %X, %d", k, b, e)
	}
	return b
}

func sign(t *testing.T, k, msg []byte) []byte {
	t.Helper()
	b, e := ecdsa.Sign(k, msg)
	if e != api.OK {
		t.Fatalf("Sign(%X, %.40X): %X, %d", k, msg, b, e)
	}
	return b
}

func checkVerify(t *testing.T, pub, msg, sig []byte, want api.Errno) {
	t.Helper()
	if e := ecdsa.Verify(pub, msg, sig); e != want {
		t.Errorf("Verify(%X, %.40X, %X): %d, not %d", pub, msg, sig, e, want)
	}
}

func checkDecode(t *testing.T, sig []byte, r, s *big.Int, want api.Errno) {
	t.Helper()
	if a, b, e := ecdsa.Decode(sig); a != num(r) || b != num(s) || e != want {
		t.Errorf("Decode(%X): %X, %X, %d, not %X, %X, %d", sig, a, b, e, r, s, want)
	}
}

func checkNoForm(t *testing.T, sig []byte) {
	t.Helper()
	checkDecode(t, sig, new(big.Int), new(big.Int), api.ErrForm)
}

func checkNoSign(t *testing.T, sig []byte) {
	t.Helper()
	checkDecode(t, sig, new(big.Int), new(big.Int), api.ErrSign)
}

// RFC 6979, A.2.5 (the chapter's example is its first one), and a message whose
// second draw is the first one that is a secret.
func TestKnown(t *testing.T) {
	k := unhex(t, exampleSecret)
	pub := unhex(t, "0460FED4BA255A9D31C961EB74C6356D68C049B8923B61FA6CE669622E60F29FB67903FE1008B8BC99A41AE9E95628BC64F2F1B20C2D7E9F5177A3C294D4462299")
	for _, c := range []struct{ msg, want string }{
		{"sample", "3046022100EFD48B2AACB6A8FD1140DD9CD45E81D69D2C877B56AAF991C34D0EA84EAF3716022100F7CB1C942D657C41D436C7A1B6E29F65F3E900DBB9AFF4064DC4AB2F843ACDA8"},
		{"test", "3045022100F1ABB023518351CD71D881567B1EA663ED3EFCF6C5132B354F28D3B0B7D383670220019F4113742A2B14BD25926B49C649155F267E60D3814B4C0CC84250E46F0083"},
		{secondDraw, "3045022100EFD9073B652E76DA1B5A019C0E4A2E3FA529B035A6ABB91EF67F0ED7A1F2123402203DB4706C9D9F4A4FE13BB5E08EF0FAB53A57DBAB2061C83A35FA411C68D2BA33"},
	} {
		want := unhex(t, c.want)
		if b := sign(t, k, []byte(c.msg)); !bytes.Equal(b, want) {
			t.Errorf("%q: %X, not %X", c.msg, b, want)
		}
		checkVerify(t, pub, []byte(c.msg), want, api.OK)
		checkVerify(t, pub, []byte(c.msg+" "), want, api.ErrSign)
	}
}

// library: the signature that Go's library makes without a random source.
func library(t *testing.T, k, msg []byte) []byte {
	t.Helper()
	secret, err := stdecdsa.ParseRawPrivateKey(elliptic.P256(), k)
	if err != nil {
		t.Fatal(err)
	}
	sum := sha256.Sum256(msg)
	b, err := secret.Sign(nil, sum[:], crypto.SHA256)
	if err != nil {
		t.Fatal(err)
	}
	return b
}

// P13.1, P13.2: each secret signs each message as the chapter's words and Go's
// library do, and what it signs is taken.
func TestSign(t *testing.T) {
	t.Parallel()
	for _, k := range secrets() {
		pub := public(t, k)
		for _, msg := range messages() {
			b := sign(t, k, msg)
			if want := library(t, k, msg); !bytes.Equal(b, want) {
				t.Errorf("Sign(%X, %.40X): %X, not %X", k, msg, b, want)
			}
			checkVerify(t, pub, msg, b, api.OK)
		}
	}
}

func TestSignAsTheWords(t *testing.T) {
	for i, k := range secrets() {
		for j, msg := range messages() {
			if (i+j)%5 != 0 {
				continue
			}
			want, e := signedBy(k, msg)
			if b := sign(t, k, msg); e != api.OK || !bytes.Equal(b, want) {
				t.Errorf("Sign(%X, %.40X): %X, not %X", k, msg, b, want)
			}
		}
	}
}

// Many signatures: all lengths that often come about are among them.
func TestSignMany(t *testing.T) {
	t.Parallel()
	lengths := map[int]int{}
	k := some(32, 17)
	pub := public(t, k)
	for i := range 600 {
		msg := some(i, uint64(i))
		b := sign(t, k, msg)
		if !bytes.Equal(b, library(t, k, msg)) {
			t.Fatalf("Sign(%X, %.40X): %X", k, msg, b)
		}
		if i%4 == 0 || len(b) < 70 {
			checkVerify(t, pub, msg, b, api.OK)
		}
		lengths[len(b)]++
	}
	for n := 69; n <= 72; n++ {
		if lengths[n] == 0 {
			t.Errorf("none of %d bytes among %v", n, lengths)
		}
	}
}

func checkNoSecret(t *testing.T, k, msg []byte, want api.Errno) {
	t.Helper()
	if b, e := ecdsa.Sign(k, msg); b != nil || e != want {
		t.Errorf("Sign(%X, %.40X): %X, %d, not %d", k, msg, b, e, want)
	}
}

func TestNoSecrets(t *testing.T) {
	for n := range 100 {
		if n != 32 {
			checkNoSecret(t, some(n, 5), []byte("sample"), api.ErrLen)
			checkNoSecret(t, make([]byte, n), nil, api.ErrLen)
		}
	}
	checkNoSecret(t, nil, nil, api.ErrLen)
	checkNoSecret(t, make([]byte, 256+32), nil, api.ErrLen)
	k := unhex(t, exampleSecret)
	for _, k := range [][]byte{k[:31], joined(k, []byte{0}), joined([]byte{0}, k), public(t, k)} {
		checkNoSecret(t, k, []byte("sample"), api.ErrLen)
	}
	for _, n := range []*big.Int{new(big.Int), order(), plus(order(), 1), plus(order(), 2), prime(), plus(power(256), -1)} {
		checkNoSecret(t, long(n), []byte("sample"), api.ErrArg)
		checkNoSecret(t, long(n), nil, api.ErrArg)
	}
}

// ends: numbers at all lengths' ends, in range or not.
func ends() []*big.Int {
	l := []*big.Int{new(big.Int), plus(power(256), -1), plus(power(256), -2), prime()}
	for i := range uint(256) {
		l = append(l, power(i), plus(power(i), -1), plus(power(i), 1))
	}
	for d := int64(-3); d <= 3; d++ {
		l = append(l, plus(order(), d))
	}
	for i := range uint64(20) {
		l = append(l, wide(some(32, i)), wide(some(int(i)+1, i)))
	}
	return l
}

// Encode takes any numbers; Decode takes those of the range back.
func TestEncode(t *testing.T) {
	all := ends()
	for i, r := range all {
		for _, s := range []*big.Int{r, all[(i*7+1)%len(all)], big.NewInt(1), new(big.Int), plus(power(256), -1), order()} {
			want, err := asn1.Marshal(struct{ R, S *big.Int }{r, s})
			if err != nil {
				t.Fatal(err)
			}
			b := ecdsa.Encode(num(r), num(s))
			if !bytes.Equal(b, want) || !bytes.Equal(b, signature(r, s)) {
				t.Fatalf("Encode(%X, %X): %X, not %X", r, s, b, want)
			}
			wantR, wantS, e := decoded(b)
			checkDecode(t, b, wantR, wantS, e)
			if e == api.OK && (wantR.Cmp(r) != 0 || wantS.Cmp(s) != 0) {
				t.Fatalf("%X, %X came back as %X, %X", r, s, wantR, wantS)
			}
		}
	}
}

// The numbers 1 to n - 1 are taken, wherever they stand, others aren't.
func TestRange(t *testing.T) {
	in := []*big.Int{big.NewInt(1), big.NewInt(2), big.NewInt(128), power(128), power(255), plus(order(), -2), plus(order(), -1)}
	out := []*big.Int{new(big.Int), order(), plus(order(), 1), prime(), plus(power(256), -1)}
	for _, a := range in {
		for _, b := range in {
			checkDecode(t, signature(a, b), a, b, api.OK)
		}
		for _, b := range out {
			checkNoSign(t, signature(a, b))
			checkNoSign(t, signature(b, a))
		}
	}
	for _, a := range out {
		for _, b := range out {
			checkNoSign(t, signature(a, b))
		}
	}
	for i := range 4 {
		a := power(uint(64 * i))
		checkDecode(t, signature(a, big.NewInt(9)), a, big.NewInt(9), api.OK)
		below, above := new(big.Int).Sub(order(), a), new(big.Int).Add(order(), a)
		checkDecode(t, signature(below, below), below, below, api.OK)
		if above.BitLen() <= 256 {
			checkNoSign(t, signature(above, a))
			checkNoSign(t, signature(a, above))
		}
	}
}

// broken: texts that are no signature's, of good parts.
func broken() [][]byte {
	one, big := []byte{2, 1, 1}, integer(wide(some(32, 3)))
	l := [][]byte{nil, {}, {0}, {0x30}, {0x30, 0}, {0x30, 0x80, 0, 0}, one, big, pair(), pair(one), pair(big), pair(one, one, one), pair(big, big, one), pair(one, one, nil, []byte{5, 0})}
	for _, bad := range [][]byte{
		{2, 0},                                   // no bytes
		{2, 1, 0x80}, {2, 1, 0xFF}, {2, 1, 0xFE}, // below 0
		{2, 2, 0x80, 0}, {2, 2, 0xFF, 0x7F},
		joined([]byte{2, 32, 0x80}, some(31, 1)),                      // as 33 bytes it would be good
		{2, 2, 0, 0}, {2, 2, 0, 1}, {2, 2, 0, 127}, {2, 3, 0, 0, 128}, // a byte too many ahead
		{2, 2, 0xFF, 0x80},                                      // and below 0, too
		joined([]byte{2, 33, 0, 127}, some(31, 2)),              // 32 bytes would do
		joined([]byte{2, 34, 0, 0, 255}, some(31, 2)),           // 33 would do
		joined([]byte{2, 33, 1}, make([]byte, 32)),              // 2^256
		joined([]byte{2, 33, 127}, some(32, 2)),                 // 33 bytes
		joined([]byte{2, 34, 0, 128}, some(32, 2)),              // 33 bytes, as a number
		joined([]byte{2, 34, 1}, some(33, 2)),                   // 34 bytes
		joined([]byte{2, 100, 1}, some(99, 2)),                  // 100 bytes
		{2, 0x81, 1, 1}, {2, 0x82, 0, 1, 1}, {2, 0x80, 1, 0, 0}, // longer lengths
		joined([]byte{2, 0x81, 32, 1}, some(31, 2)), //
		{3, 1, 1}, {4, 1, 1}, {1, 1, 0xFF}, {0x22, 1, 1}, {0x82, 1, 1}, // other tags
		{5, 0}, {0x30, 3, 2, 1, 1}, {0x42, 1, 1}, {0x1F, 1, 1}, {10, 1, 1}, //
		{2, 2, 1}, {2, 1}, {2}, {2, 0x7F, 1}, // cut off
	} {
		l = append(l, pair(bad, one), pair(one, bad), pair(bad, bad), pair(big, bad), pair(one, one, bad), bad)
	}
	both := joined(one, one)
	for _, tag := range []byte{0, 1, 2, 4, 0x10, 0x24, 0x31, 0x70, 0xA0, 0xB0, 0xFF} {
		l = append(l, joined([]byte{tag, 6}, both))
	}
	for _, head := range [][]byte{{0x30, 0x81, 6}, {0x30, 0x82, 0, 6}, {0x30, 0x83, 0, 0, 6}, {0x30, 0x80}, {0x30, 5}, {0x30, 7}, {0x30, 3}, {0x30, 127}, {0x30, 0x86}} {
		l = append(l, joined(head, both), joined(head, both, []byte{0, 0}))
	}
	return append(l, pair(pair(one, one)), pair(pair(one), pair(one)), make([]byte, 72), some(72, 4), some(1000, 4), some(70000, 4))
}

func TestNoForm(t *testing.T) {
	k := unhex(t, exampleSecret)
	pub := public(t, k)
	for _, b := range broken() {
		checkNoForm(t, b)
		checkVerify(t, pub, []byte("sample"), b, api.ErrForm)
	}
}

// Good signatures of all lengths, each of which is cut off, and has bytes behind
// it, or ahead.
func TestCutAndLonger(t *testing.T) {
	pub, msg := public(t, unhex(t, exampleSecret)), []byte("sample")
	for _, n := range []*big.Int{big.NewInt(1), big.NewInt(128), power(130), power(247), power(254), power(255), plus(order(), -1)} {
		b := signature(n, n)
		for i := range b {
			checkNoForm(t, b[:i])
			checkNoForm(t, b[i+1:])
			checkVerify(t, pub, msg, b[:i], api.ErrForm)
		}
		for _, more := range [][]byte{{0}, {1}, {0, 0}, {5, 0}, {2, 1, 1}, b} {
			checkNoForm(t, joined(b, more))
			checkVerify(t, pub, msg, joined(b, more), api.ErrForm)
			checkNoForm(t, pair(integer(n), integer(n), more))
			checkNoForm(t, pair(integer(n), more, integer(n)))
			checkNoForm(t, pair(more, integer(n), integer(n)))
			checkNoForm(t, joined(more[:1], b))
		}
	}
}

// What isn't of that form is told ahead of a number that isn't of the range.
func TestFormFirst(t *testing.T) {
	zero, far := integer(new(big.Int)), integer(order())
	for _, out := range [][]byte{zero, far} {
		for _, bad := range [][]byte{{2, 1, 0x80}, {2, 2, 0, 1}, {2, 0}, {4, 1, 1}, {2, 2, 1}, {}, joined([]byte{2, 33, 1}, some(32, 1))} {
			checkNoForm(t, pair(out, bad))
			checkNoForm(t, pair(bad, out))
		}
		for _, in := range [][]byte{out, {2, 1, 1}} {
			checkNoSign(t, pair(out, in))
			checkNoSign(t, pair(in, out))
			checkNoForm(t, joined(pair(out, in), []byte{0}))
			checkNoForm(t, pair(out, in, []byte{2, 1, 1}))
			checkNoForm(t, pair(in, out, []byte{5, 0}))
		}
	}
}

// Any byte at any place of a signature: Decode answers by the words.
func TestEachByte(t *testing.T) {
	for _, sig := range [][]byte{
		signature(big.NewInt(5), big.NewInt(6)),
		signature(power(255), plus(order(), -1)),
		signature(new(big.Int), big.NewInt(300)),
		signature(wide(some(31, 1)), wide(some(32, 2))),
	} {
		for i := range sig {
			for v := range 256 {
				b := bytes.Clone(sig)
				b[i] = byte(v)
				r, s, e := decoded(b)
				checkDecode(t, b, r, s, e)
			}
		}
	}
}

// Texts of drawn pieces.
func TestDrawnTexts(t *testing.T) {
	pieces := [][]byte{{0x30}, {2}, {0}, {1}, {0x80}, {0xFF}, {2, 1, 1}, {2, 1, 0}, {0x30, 6}, {0x30, 6, 2, 1}, {2, 2, 0, 0x80}, integer(order()), integer(power(255)), some(32, 1)}
	for i := range uint64(20000) {
		var b []byte
		draw := some(8, i)
		for _, v := range draw[:1+draw[7]%7] {
			b = append(b, pieces[int(v)%len(pieces)]...)
		}
		if draw[7] >= 64 && len(b) < 256 {
			b = pair(b)
		}
		r, s, e := decoded(b)
		checkDecode(t, b, r, s, e)
	}
}
