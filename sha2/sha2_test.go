package sha2_test

import (
	"bytes"
	"crypto/sha256"
	"crypto/sha512"
	"encoding/hex"
	"hash"
	"math"
	"strings"
	"sync"
	"testing"

	"cartouche/sha2"
)

var kinds = []int{256, 384, 512}

var otherKinds = []int{
	0, 1, -1, 8, 32, 48, 64, 128, 160, 224, 255, 257, 383, 385, 511, 513, 768, 1024,
	-256, -384, -512, 256 + 1<<32, 384 - 1<<32, math.MaxInt, math.MinInt,
}

// reference is a hash that isn't the program's.
func reference(kind int) hash.Hash {
	switch kind {
	case 256:
		return sha256.New()
	case 384:
		return sha512.New384()
	}
	return sha512.New()
}

// told is what the reference says of bytes.
func told(kind int, b []byte) []byte {
	h := reference(kind)
	h.Write(b)
	return h.Sum(nil)
}

// text is n bytes with no pattern to them, always the same ones.
func text(n int) []byte {
	b := make([]byte, n)
	state := uint64(2026)
	for i := range b {
		state = state*6364136223846793005 + 1442695040888963407
		b[i] = byte(state >> 56)
	}
	return b
}

// made is a hash of a kind, of the parts that are written.
func made(t *testing.T, kind int, parts ...[]byte) *sha2.Hash {
	t.Helper()
	h := sha2.New(kind)
	if h == nil {
		t.Fatal("New of", kind, "is nil")
	}
	for _, p := range parts {
		h.Write(p)
	}
	return h
}

func TestSizesAndBlocks(t *testing.T) {
	for _, c := range []struct{ kind, size, block int }{{256, 32, 64}, {384, 48, 128}, {512, 64, 128}} {
		if sha2.Size(c.kind) != c.size || sha2.Block(c.kind) != c.block {
			t.Fatal(c.kind, sha2.Size(c.kind), sha2.Block(c.kind))
		}
		if n := len(sha2.Sum(c.kind, nil)); n != c.size {
			t.Fatal("the hash of kind", c.kind, "has", n, "bytes")
		}
	}
}

func TestOtherKinds(t *testing.T) {
	for _, kind := range otherKinds {
		if sha2.Size(kind) != 0 || sha2.Block(kind) != 0 {
			t.Fatal(kind, sha2.Size(kind), sha2.Block(kind))
		}
		if h := sha2.New(kind); h != nil {
			t.Fatal("New of", kind, "is not nil")
		}
		if b := sha2.Sum(kind, []byte("abc")); len(b) != 0 {
			t.Fatalf("Sum of kind %d: %x", kind, b)
		}
	}
}

// The examples of FIPS 180-4, and of no bytes at all.
func TestKnownHashes(t *testing.T) {
	half := "abcdbcdecdefdefgefghfghighijhijkijkljklmklmnlmnomnopnopq"
	whole := "abcdefghbcdefghicdefghijdefghijkefghijklfghijklmghijklmnhijklmnoijklmnopjklmnopqklmnopqrlmnopqrsmnopqrstnopqrstu"
	for _, c := range []struct {
		kind       int
		text, want string
	}{
		{256, "", "E3B0C44298FC1C149AFBF4C8996FB92427AE41E4649B934CA495991B7852B855"},
		{256, "abc", "BA7816BF8F01CFEA414140DE5DAE2223B00361A396177A9CB410FF61F20015AD"},
		{256, half, "248D6A61D20638B8E5C026930C3E6039A33CE45964FF2167F6ECEDD419DB06C1"},
		{384, "", "38B060A751AC96384CD9327EB1B1E36A21FDB71114BE07434C0CC7BF63F6E1DA274EDEBFE76F65FBD51AD2F14898B95B"},
		{384, "abc", "CB00753F45A35E8BB5A03D699AC65007272C32AB0EDED1631A8B605A43FF5BED8086072BA1E7CC2358BAECA134C825A7"},
		{384, whole, "09330C33F71147E83D192FC782CD1B4753111B173B3B05D22FA08086E3B0F712FCC7C71A557E2DB966C3E9FA91746039"},
		{512, "", "CF83E1357EEFB8BDF1542850D66D8007D620E4050B5715DC83F4A921D36CE9CE47D0D13C5D85F2B0FF8318D2877EEC2F63B931BD47417A81A538327AF927DA3E"},
		{512, "abc", "DDAF35A193617ABACC417349AE20413112E6FA4E89A97EA20A9EEEE64B55D39A2192992A274FC1A836BA3C23A3FEEBBD454D4423643CE80E2A9AC94FA54CA49F"},
		{512, whole, "8E959B75DAE313DA8CF4F72814FC143F8F7779C6EB9F7FA17299AEADB6889018501D289E4900F7E4331B99DEC4B5433AC7D329EEB6DD26545E96E55B874BE909"},
	} {
		got := strings.ToUpper(hex.EncodeToString(sha2.Sum(c.kind, []byte(c.text))))
		if got != c.want {
			t.Fatalf("kind %d of %q: %s", c.kind, c.text, got)
		}
	}
}

// Each length fills its last block up in another way.
func TestEveryLength(t *testing.T) {
	b := text(600)
	for _, kind := range kinds {
		for n := range len(b) + 1 {
			if got := sha2.Sum(kind, b[:n]); !bytes.Equal(got, told(kind, b[:n])) {
				t.Fatalf("kind %d of %d bytes: %x", kind, n, got)
			}
		}
	}
}

func TestBytesAllAlike(t *testing.T) {
	for _, kind := range kinds {
		for _, x := range []byte{0, 0x80, 0xFF} {
			for n := range 300 {
				b := bytes.Repeat([]byte{x}, n)
				if got := sha2.Sum(kind, b); !bytes.Equal(got, told(kind, b)) {
					t.Fatalf("kind %d of %d times %x: %x", kind, n, x, got)
				}
			}
		}
	}
}

func TestManyTexts(t *testing.T) {
	b := text(3000)
	for _, kind := range kinds {
		for from := range 500 {
			piece := b[from : 3*from+1]
			if got := sha2.Sum(kind, piece); !bytes.Equal(got, told(kind, piece)) {
				t.Fatalf("kind %d of %x: %x", kind, piece, got)
			}
		}
	}
}

func TestCutInTwoAnywhere(t *testing.T) {
	b := text(300)
	for _, kind := range kinds {
		for _, n := range []int{1, 55, 56, 63, 64, 65, 111, 112, 119, 127, 128, 129, 255, 256, 257, 300} {
			want := told(kind, b[:n])
			for at := range n + 1 {
				if got := made(t, kind, b[:at], b[at:n]).Sum(); !bytes.Equal(got, want) {
					t.Fatalf("kind %d of %d bytes cut at %d: %x", kind, n, at, got)
				}
			}
		}
	}
}

func TestCutInPiecesOfOneSize(t *testing.T) {
	b := text(1000)
	for _, kind := range kinds {
		want := told(kind, b)
		for size := 1; size <= 270; size++ {
			h := made(t, kind)
			for rest := b; len(rest) > 0; {
				n := min(size, len(rest))
				h.Write(rest[:n])
				rest = rest[n:]
			}
			if got := h.Sum(); !bytes.Equal(got, want) {
				t.Fatalf("kind %d in pieces of %d: %x", kind, size, got)
			}
		}
	}
}

func TestCutUnevenly(t *testing.T) {
	b, cuts := text(20000), text(400)
	for _, kind := range kinds {
		h, r := made(t, kind), reference(kind)
		rest := b
		for i, c := range cuts {
			n := min(int(c)*(i%3), len(rest))
			h.Write(rest[:n])
			r.Write(rest[:n])
			rest = rest[n:]
			if got := h.Sum(); !bytes.Equal(got, r.Sum(nil)) {
				t.Fatalf("kind %d after piece %d: %x", kind, i, got)
			}
		}
	}
}

func TestNoBytesChangeNothing(t *testing.T) {
	b := text(200)
	for _, kind := range kinds {
		for _, n := range []int{0, 1, 63, 64, 127, 128, 200} {
			h := made(t, kind, nil, []byte{}, b[:n], nil, b[n:n], []byte{})
			if got := h.Sum(); !bytes.Equal(got, told(kind, b[:n])) {
				t.Fatalf("kind %d of %d bytes: %x", kind, n, got)
			}
		}
	}
}

func TestMoreIsWrittenBehindASum(t *testing.T) {
	b := text(300)
	for _, kind := range kinds {
		h := made(t, kind)
		for i := range b {
			first, again := h.Sum(), h.Sum()
			if !bytes.Equal(first, told(kind, b[:i])) || !bytes.Equal(first, again) {
				t.Fatalf("kind %d of %d bytes: %x, then %x", kind, i, first, again)
			}
			h.Write(b[i : i+1])
		}
	}
}

func TestACopyGoesOnByItself(t *testing.T) {
	b, one, two := text(300), []byte("one"), bytes.Repeat([]byte("two"), 90)
	for _, kind := range kinds {
		for n := range len(b) + 1 {
			h := made(t, kind, b[:n])
			k := h.Copy()
			k.Write(two)
			l := k.Copy()
			if got := h.Sum(); !bytes.Equal(got, told(kind, b[:n])) {
				t.Fatalf("kind %d: a copy of %d bytes was written to: %x", kind, n, got)
			}
			h.Write(one)
			l.Write(one)
			sum := bytes.Clone(b[:n])
			for i, c := range []struct {
				h    *sha2.Hash
				want []byte
			}{
				{h, append(sum[:n:n], one...)},
				{k, append(sum[:n:n], two...)},
				{l, append(append(sum[:n:n], two...), one...)},
			} {
				if got := c.h.Sum(); !bytes.Equal(got, told(kind, c.want)) {
					t.Fatalf("kind %d of %d bytes, hash %d: %x", kind, n, i, got)
				}
			}
		}
	}
}

func TestHashesBesideEachOther(t *testing.T) {
	b := text(1000)
	var l []*sha2.Hash
	for _, kind := range kinds {
		l = append(l, made(t, kind), made(t, kind))
	}
	for i := range b {
		l[i%len(l)].Write(b[i : i+1])
	}
	for i, h := range l {
		var own []byte
		for j := i; j < len(b); j += len(l) {
			own = append(own, b[j])
		}
		if got := h.Sum(); !bytes.Equal(got, told(kinds[i/2], own)) {
			t.Fatalf("hash %d: %x", i, got)
		}
	}
}

func TestTheBytesAreLeftAndNotKept(t *testing.T) {
	for _, kind := range kinds {
		for n := range 260 {
			room := text(300)
			b := room[20 : 20+n]
			want := told(kind, b)
			h := made(t, kind, b)
			sum := sha2.Sum(kind, b)
			if !bytes.Equal(room, text(300)) {
				t.Fatal("kind", kind, "changed the bytes, or those about them, at length", n)
			}
			clear(room)
			if got := h.Sum(); !bytes.Equal(got, want) || !bytes.Equal(sum, want) {
				t.Fatalf("kind %d of %d bytes hangs on what was handed in: %x, %x", kind, n, got, sum)
			}
		}
	}
}

func TestASumIsNewMemory(t *testing.T) {
	for _, kind := range kinds {
		h := made(t, kind, []byte("abc"))
		want := told(kind, []byte("abc"))
		for range 3 {
			for _, b := range [][]byte{h.Sum(), h.Copy().Sum(), sha2.Sum(kind, []byte("abc"))} {
				if !bytes.Equal(b, want) {
					t.Fatalf("kind %d, after an answer was changed: %x", kind, b)
				}
				clear(b[:cap(b)])
			}
		}
		h.Write([]byte("def"))
		if got := h.Sum(); !bytes.Equal(got, told(kind, []byte("abcdef"))) {
			t.Fatalf("kind %d goes on from a changed answer: %x", kind, got)
		}
	}
}

func TestNil(t *testing.T) {
	var h *sha2.Hash
	h.Write([]byte("abc"))
	h.Write(nil)
	if h.Copy() != nil {
		t.Fatal("a copy of nil is not nil")
	}
	if b := h.Sum(); len(b) != 0 {
		t.Fatalf("Sum of nil: %x", b)
	}
}

// What a Hash answers that New didn't make is not said, but each call ends.
func TestEveryCallEnds(t *testing.T) {
	for _, h := range []*sha2.Hash{nil, {}, new(sha2.Hash).Copy()} {
		for _, n := range []int{0, 1, 64, 127, 128, 129, 5000} {
			h.Write(text(n))
			h.Sum()
			h.Copy().Write(text(n))
			h.Copy().Sum()
		}
	}
	for _, kind := range append(otherKinds, kinds...) {
		sha2.Size(kind)
		sha2.Block(kind)
		sha2.Sum(kind, nil)
		sha2.Sum(kind, make([]byte, 1<<20+1))
		h := sha2.New(kind)
		h.Write(nil)
		h.Copy().Sum()
	}
}

// Many may ask one Hash at once, as asking leaves it.
func TestAskingChangesNothing(t *testing.T) {
	for _, kind := range kinds {
		h := made(t, kind, text(100))
		var asked sync.WaitGroup
		for i := range 4 {
			asked.Go(func() {
				own := bytes.Repeat([]byte{byte(i)}, 50)
				for range 50 {
					k := h.Copy()
					k.Write(own)
					if got := k.Sum(); !bytes.Equal(got, told(kind, append(text(100), own...))) {
						t.Errorf("kind %d, a copy: %x", kind, got)
					}
					if got := h.Sum(); !bytes.Equal(got, told(kind, text(100))) {
						t.Errorf("kind %d: %x", kind, got)
					}
				}
			})
		}
		asked.Wait()
	}
}

// The number of a text's bits needs more than 32 of them from 2^29 bytes on.
func TestMoreThan32BitsOfLength(t *testing.T) {
	part := text(1 << 20)
	var asked sync.WaitGroup
	for _, kind := range kinds {
		asked.Go(func() {
			h, r := sha2.New(kind), reference(kind)
			for range 1<<9 + 1 {
				h.Write(part)
				r.Write(part)
			}
			if got := h.Sum(); !bytes.Equal(got, r.Sum(nil)) {
				t.Errorf("kind %d: %x", kind, got)
			}
		})
	}
	asked.Wait()
}
