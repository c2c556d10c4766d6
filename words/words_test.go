package words_test

import (
	"bytes"
	"math"
	"math/big"
	"testing"

	"cartouche/api"
	"cartouche/words"
)

const top = math.MaxUint64

var modulus = new(big.Int).Lsh(big.NewInt(1), 256)

// samples are numbers about every border between words, and some with no
// pattern to them.
func samples() []api.Num {
	l := []api.Num{
		{}, {1}, {2}, {5}, {top - 1}, {top},
		{0, 1}, {1, 1}, {top, top}, {0, top},
		{0, 0, 1}, {top, top, top}, {0, 0, top},
		{0, 0, 0, 1}, {1, 0, 0, 1}, {0, 0, 0, 1 << 63}, {top, top, top, 1<<63 - 1},
		{0, 0, 0, top}, {0, top, top, top}, {top, 0, top, 0}, {top - 1, top, top, top}, {top, top, top, top},
	}
	x := uint64(0x9E3779B97F4A7C15)
	for range 16 {
		var n api.Num
		for i := range n {
			x ^= x << 13
			x ^= x >> 7
			x ^= x << 17
			n[i] = x
		}
		l = append(l, n)
	}
	return l
}

// whole is a number as the sum that the chapter writes: n[0] + 2^64 n[1] + ..
func whole(n api.Num) *big.Int {
	sum := new(big.Int)
	for i, w := range n {
		sum.Add(sum, new(big.Int).Lsh(new(big.Int).SetUint64(w), uint(64*i)))
	}
	return sum
}

// counted is bytes from first up to first + n - 1.
func counted(first, n int) []byte {
	b := make([]byte, n)
	for i := range b {
		b[i] = byte(first + i)
	}
	return b
}

func reversed(b []byte) []byte {
	r := make([]byte, len(b))
	for i, x := range b {
		r[len(b)-1-i] = x
	}
	return r
}

func TestBigReadsTheHighestFirst(t *testing.T) {
	n, ok := words.Big(append(make([]byte, 31), 5))
	if !ok || n != (api.Num{5}) {
		t.Fatal("31 zeros and a 5:", n, ok)
	}
	n, ok = words.Big(counted(1, 32))
	want := api.Num{0x191A1B1C1D1E1F20, 0x1112131415161718, 0x090A0B0C0D0E0F10, 0x0102030405060708}
	if !ok || n != want {
		t.Fatalf("%x %v", n, ok)
	}
	n, ok = words.Big(bytes.Repeat([]byte{255}, 32))
	if !ok || n != (api.Num{top, top, top, top}) {
		t.Fatalf("%x %v", n, ok)
	}
	n, ok = words.Big(make([]byte, 32))
	if !ok || n != (api.Num{}) {
		t.Fatalf("%x %v", n, ok)
	}
}

func TestLittleReadsTheLowestFirst(t *testing.T) {
	n, ok := words.Little(append([]byte{5}, make([]byte, 31)...))
	if !ok || n != (api.Num{5}) {
		t.Fatal("a 5 and 31 zeros:", n, ok)
	}
	n, ok = words.Little(counted(1, 32))
	want := api.Num{0x0807060504030201, 0x100F0E0D0C0B0A09, 0x1817161514131211, 0x201F1E1D1C1B1A19}
	if !ok || n != want {
		t.Fatalf("%x %v", n, ok)
	}
	n, ok = words.Little(make([]byte, 32))
	if !ok || n != (api.Num{}) {
		t.Fatalf("%x %v", n, ok)
	}
}

func TestBytesThatAreNot32(t *testing.T) {
	if n, ok := words.Big(nil); ok || n != (api.Num{}) {
		t.Fatal("Big of nil:", n, ok)
	}
	if n, ok := words.Little(nil); ok || n != (api.Num{}) {
		t.Fatal("Little of nil:", n, ok)
	}
	lengths := []int{0, 1, 8, 16, 30, 31, 33, 34, 40, 63, 64, 65, 4096}
	for _, l := range lengths {
		b := bytes.Repeat([]byte{0xA5}, l)
		if n, ok := words.Big(b); ok || n != (api.Num{}) {
			t.Fatal("Big of", l, n, ok)
		}
		if n, ok := words.Little(b); ok || n != (api.Num{}) {
			t.Fatal("Little of", l, n, ok)
		}
	}
	// What counts is the length, not the room behind it.
	if n, ok := words.Big(make([]byte, 31, 32)); ok || n != (api.Num{}) {
		t.Fatal(n, ok)
	}
	if n, ok := words.Little(make([]byte, 31, 32)); ok || n != (api.Num{}) {
		t.Fatal(n, ok)
	}
}

func TestReadingLeavesTheBytes(t *testing.T) {
	room := counted(7, 40)
	kept := bytes.Clone(room)
	n, _ := words.Big(room[:32])
	m, _ := words.Little(room[:32])
	if !bytes.Equal(room, kept) {
		t.Fatal("the bytes, or those behind, were changed")
	}
	was, turned := n, m
	clear(room)
	if n != was || m != turned {
		t.Fatal("the numbers hang on the bytes")
	}
}

func TestBytesAndTurnedGoBack(t *testing.T) {
	n := api.Num{0x0706050403020100, 0x0F0E0D0C0B0A0908, 0x1716151413121110, 0x1F1E1D1C1B1A1918}
	if words.Turned(n) != [32]byte(counted(0, 32)) {
		t.Fatal(words.Turned(n))
	}
	if words.Bytes(n) != [32]byte(reversed(counted(0, 32))) {
		t.Fatal(words.Bytes(n))
	}
	for _, n := range samples() {
		b, l := words.Bytes(n), words.Turned(n)
		if new(big.Int).SetBytes(b[:]).Cmp(whole(n)) != 0 {
			t.Fatalf("Bytes of %x: %x", n, b)
		}
		if !bytes.Equal(reversed(b[:]), l[:]) {
			t.Fatalf("Turned of %x: %x", n, l)
		}
		if m, ok := words.Big(b[:]); !ok || m != n {
			t.Fatalf("%x came back as %x", n, m)
		}
		if m, ok := words.Little(l[:]); !ok || m != n {
			t.Fatalf("%x came back as %x", n, m)
		}
	}
}

func TestAdd(t *testing.T) {
	all := api.Num{top, top, top, top}
	cases := []struct {
		a, b, sum api.Num
		beyond    uint64
	}{
		{api.Num{}, api.Num{}, api.Num{}, 0},
		{api.Num{2}, api.Num{3}, api.Num{5}, 0},
		{api.Num{top}, api.Num{1}, api.Num{0, 1}, 0},
		{api.Num{top, top}, api.Num{1}, api.Num{0, 0, 1}, 0},
		{api.Num{top, top, top}, api.Num{1}, api.Num{0, 0, 0, 1}, 0},
		{api.Num{0, top, 5}, api.Num{0, 1, 6}, api.Num{0, 0, 12}, 0},
		{api.Num{top, top, top, top - 1}, api.Num{1}, api.Num{0, 0, 0, top}, 0},
		{all, api.Num{}, all, 0},
		{all, api.Num{1}, api.Num{}, 1},
		{all, api.Num{2}, api.Num{1}, 1},
		{all, all, api.Num{top - 1, top, top, top}, 1},
		{api.Num{0, 0, 0, 1 << 63}, api.Num{0, 0, 0, 1 << 63}, api.Num{}, 1},
	}
	for _, c := range cases {
		if sum, beyond := words.Add(c.a, c.b); sum != c.sum || beyond != c.beyond {
			t.Fatalf("%x + %x: %x, %d", c.a, c.b, sum, beyond)
		}
		if sum, beyond := words.Add(c.b, c.a); sum != c.sum || beyond != c.beyond {
			t.Fatalf("%x + %x: %x, %d", c.b, c.a, sum, beyond)
		}
	}
}

func TestSub(t *testing.T) {
	all := api.Num{top, top, top, top}
	cases := []struct {
		a, b, rest api.Num
		below      uint64
	}{
		{api.Num{}, api.Num{}, api.Num{}, 0},
		{api.Num{5}, api.Num{3}, api.Num{2}, 0},
		{api.Num{5}, api.Num{5}, api.Num{}, 0},
		{all, all, api.Num{}, 0},
		{all, api.Num{}, all, 0},
		{api.Num{0, 1}, api.Num{1}, api.Num{top}, 0},
		{api.Num{0, 0, 0, 1}, api.Num{1}, api.Num{top, top, top}, 0},
		{api.Num{}, api.Num{1}, all, 1},
		{api.Num{3}, api.Num{5}, api.Num{top - 1, top, top, top}, 1},
		{api.Num{}, all, api.Num{1}, 1},
		{api.Num{top, top, top}, api.Num{0, 0, 0, 1}, all, 1},
		{api.Num{}, api.Num{0, 0, 0, 1 << 63}, api.Num{0, 0, 0, 1 << 63}, 1},
		{api.Num{9, 4}, api.Num{8, 5}, api.Num{1, top, top, top}, 1},
	}
	for _, c := range cases {
		if rest, below := words.Sub(c.a, c.b); rest != c.rest || below != c.below {
			t.Fatalf("%x - %x: %x, %d", c.a, c.b, rest, below)
		}
	}
}

func TestLess(t *testing.T) {
	cases := []struct {
		a, b api.Num
		less bool
	}{
		{api.Num{}, api.Num{}, false},
		{api.Num{}, api.Num{1}, true},
		{api.Num{1}, api.Num{}, false},
		{api.Num{3}, api.Num{5}, true},
		{api.Num{5}, api.Num{3}, false},
		{api.Num{top, top, top}, api.Num{0, 0, 0, 1}, true},
		{api.Num{0, 0, 0, 1}, api.Num{top, top, top}, false},
		{api.Num{0, 0, 0, 1}, api.Num{0, 0, 0, top}, true},
		{api.Num{1, 2, 3, 4}, api.Num{1, 2, 3, 4}, false},
		{api.Num{1, 2, 3, 4}, api.Num{2, 2, 3, 4}, true},
		{api.Num{2, 2, 3, 4}, api.Num{1, 3, 3, 4}, true},
	}
	for _, c := range cases {
		if words.Less(c.a, c.b) != c.less {
			t.Fatalf("%x below %x: %v", c.a, c.b, !c.less)
		}
	}
}

// Every pair of samples is held against reckoning that isn't the program's.
func TestReckoningOfPairs(t *testing.T) {
	l := samples()
	for _, a := range l {
		for _, b := range l {
			x, y := whole(a), whole(b)
			sum, beyond := words.Add(a, b)
			told := new(big.Int).Add(whole(sum), new(big.Int).Mul(modulus, new(big.Int).SetUint64(beyond)))
			if told.Cmp(new(big.Int).Add(x, y)) != 0 {
				t.Fatalf("%x + %x: %x, %d", a, b, sum, beyond)
			}
			rest, below := words.Sub(a, b)
			told = new(big.Int).Sub(whole(rest), new(big.Int).Mul(modulus, new(big.Int).SetUint64(below)))
			if told.Cmp(new(big.Int).Sub(x, y)) != 0 {
				t.Fatalf("%x - %x: %x, %d", a, b, rest, below)
			}
			if words.Less(a, b) != (x.Cmp(y) < 0) {
				t.Fatalf("%x below %x: %v", a, b, words.Less(a, b))
			}
		}
	}
}

func TestBit(t *testing.T) {
	for at := range 256 {
		var n api.Num
		n[at/64] = 1 << (at % 64)
		for i := range 256 {
			want := uint64(0)
			if i == at {
				want = 1
			}
			if words.Bit(n, i) != want {
				t.Fatalf("bit %d of 2^%d: %d", i, at, words.Bit(n, i))
			}
		}
	}
	for _, n := range samples() {
		for i := range 256 {
			if words.Bit(n, i) != uint64(whole(n).Bit(i)) {
				t.Fatalf("bit %d of %x: %d", i, n, words.Bit(n, i))
			}
		}
	}
}

func TestBitsThatAreNot0To255(t *testing.T) {
	all := api.Num{top, top, top, top}
	if words.Bit(all, 0) != 1 || words.Bit(all, 255) != 1 {
		t.Fatal(words.Bit(all, 0), words.Bit(all, 255))
	}
	beyond := []int{-1, -2, -63, -64, -65, -255, -256, 256, 257, 319, 320, 512, 1 << 32, math.MinInt, math.MinInt + 1, math.MaxInt}
	for _, i := range beyond {
		if words.Bit(all, i) != 0 {
			t.Fatalf("bit %d: %d", i, words.Bit(all, i))
		}
	}
}

func TestPickGoesByTheLowestBitAlone(t *testing.T) {
	a := api.Num{1, 0xF0F0, 3, top}
	b := api.Num{top, 0x0F0F, 9, 4}
	for _, x := range []uint64{1, 3, 5, 0x101, 1<<63 + 1, top} {
		if n := words.Pick(x, a, b); n != a {
			t.Fatalf("%x: %x", x, n)
		}
	}
	for _, x := range []uint64{0, 2, 4, 6, 0x100, 1 << 63, top - 1} {
		if n := words.Pick(x, a, b); n != b {
			t.Fatalf("%x: %x", x, n)
		}
	}
	for _, a := range samples() {
		for _, b := range samples() {
			if words.Pick(1, a, b) != a || words.Pick(0, a, b) != b {
				t.Fatalf("of %x and %x: %x, %x", a, b, words.Pick(1, a, b), words.Pick(0, a, b))
			}
		}
	}
}
