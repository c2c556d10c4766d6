package der_test

import (
	"bytes"
	"encoding/asn1"
	"math"
	"math/big"
	"testing"

	"cartouche/api"
	"cartouche/der"
)

// numbers: about each power of 2, and draws.
func numbers() []uint64 {
	l := []uint64{0, math.MaxUint64, math.MaxInt64, 0x0123456789ABCDEF}
	for i := range 64 {
		n := uint64(1) << i
		l = append(l, n-1, n, n+1, n|1<<63, 0xFF<<i, 0x80<<i, 0x7F<<i)
	}
	for i := range uint64(2000) {
		l = append(l, number(some(8, i)).Uint64()>>(i%64))
	}
	return l
}

func TestKnownNumbers(t *testing.T) {
	for n, want := range map[uint64]string{
		0:              "\x02\x01\x00",
		1:              "\x02\x01\x01",
		127:            "\x02\x01\x7F",
		128:            "\x02\x02\x00\x80", // the chapter's example
		255:            "\x02\x02\x00\xFF",
		256:            "\x02\x02\x01\x00",
		32767:          "\x02\x02\x7F\xFF",
		32768:          "\x02\x03\x00\x80\x00",
		math.MaxInt64:  "\x02\x08\x7F\xFF\xFF\xFF\xFF\xFF\xFF\xFF",
		1 << 63:        "\x02\x09\x00\x80\x00\x00\x00\x00\x00\x00\x00",
		math.MaxUint64: "\x02\x09\x00\xFF\xFF\xFF\xFF\xFF\xFF\xFF\xFF",
	} {
		if b := der.Number(n); string(b) != want {
			t.Errorf("%d: %X, not %X", n, b, want)
		}
	}
}

// There and back, as by the words and as by Go's library.
func TestNumbers(t *testing.T) {
	for _, n := range append(numbers(), upTo(70000)...) {
		b, big := der.Number(n), new(big.Int).SetUint64(n)
		if want := element(der.Int, integer(big)); !bytes.Equal(b, want) {
			t.Fatalf("%d: %X, not %X", n, b, want)
		}
		if want, err := asn1.Marshal(big); err != nil || !bytes.Equal(b, want) {
			t.Fatalf("%d: %X, the library's are %X, %v", n, b, want, err)
		}
		checkBack(t, b, big)
	}
}

func upTo(n uint64) []uint64 {
	var l []uint64
	for i := range n {
		l = append(l, i)
	}
	return l
}

// checkBack: an element that was written is read as that number.
func checkBack(t *testing.T, b []byte, want *big.Int) {
	t.Helper()
	tag, in, behind, e := der.Get(b)
	if tag != der.Int || len(behind) != 0 || e != api.OK {
		t.Fatalf("%.20X: %X, %X, %d", b, tag, behind, e)
	}
	if n, ok := der.Whole(in); !ok || !bytes.Equal(n, want.Bytes()) {
		t.Fatalf("%.20X: %.20X, %t", b, n, ok)
	}
}

// Bytes of any number, of many bytes, with any number of zeros ahead.
func TestNatural(t *testing.T) {
	for _, n := range []int{0, 1, 2, 3, 8, 9, 31, 32, 33, 126, 127, 128, 254, 255, 256, 1000, 65533, 65534} {
		for _, first := range []byte{0x01, 0x7F, 0x80, 0xFF} {
			in := some(n, uint64(n)+uint64(first))
			if n > 0 {
				in[0] = first
			}
			want := element(der.Int, integer(number(in)))
			for _, zeros := range []int{0, 1, 2, 3, 40, 70000} {
				b := der.Natural(joined(make([]byte, zeros), in))
				if !bytes.Equal(b, want) {
					t.Fatalf("%d zeros, %d bytes from %X on: %.20X, not %.20X", zeros, n, first, b, want)
				}
				checkBack(t, b, number(in))
			}
		}
	}
	if b := der.Natural(nil); string(b) != "\x02\x01\x00" {
		t.Errorf("nil: %X", b)
	}
}

// An INTEGER that would have more than 65535 bytes is none, as Put's is.
func TestNaturalTooLong(t *testing.T) {
	b := make([]byte, 65537)
	b[1], b[2] = 0x7F, 0x80
	if got := der.Natural(b[1:65536]); len(got) != 65539 || string(got[:6]) != "\x02\x82\xFF\xFF\x7F\x80" {
		t.Errorf("65535 bytes: %d, %.20X", len(got), got)
	}
	if got := der.Natural(b[:65536]); len(got) != 65539 || string(got[:6]) != "\x02\x82\xFF\xFF\x7F\x80" {
		t.Errorf("a zero and 65535 bytes: %d, %.20X", len(got), got)
	}
	if got := der.Natural(b[2:]); got != nil {
		t.Errorf("65535 bytes from 80 on: %d", len(got))
	}
	if got := der.Natural(b[1:]); got != nil {
		t.Errorf("65536 bytes: %d", len(got))
	}
	b[0] = 1
	if got := der.Natural(b); got != nil {
		t.Errorf("65537 bytes: %d", len(got))
	}
}

func checkWhole(t *testing.T, b []byte) {
	t.Helper()
	got, ok := der.Whole(b)
	want, may := whole(b)
	if ok != may || !bytes.Equal(got, want) || !ok && got != nil {
		t.Fatalf("Whole(%.20X of %d): %.20X, %t; not %.20X, %t", b, len(b), got, ok, want, may)
	}
}

func TestWhole(t *testing.T) {
	checkWhole(t, nil)
	checkWhole(t, []byte{})
	edges := []byte{0x00, 0x01, 0x7F, 0x80, 0x81, 0xFF}
	for a := range 256 {
		checkWhole(t, []byte{byte(a)})
		for b := range 256 {
			checkWhole(t, []byte{byte(a), byte(b)})
			for _, c := range edges {
				checkWhole(t, []byte{byte(a), byte(b), c})
				checkWhole(t, []byte{byte(a), byte(b), c, 5, 6, 7, 8, 9, 10})
			}
		}
	}
	for i := range uint64(2000) {
		checkWhole(t, some(int(i%70), i))
	}
	for _, n := range []int{127, 128, 255, 256, 65534, 65535, 65536, 100000} {
		for _, first := range edges {
			b := some(n, 9)
			b[0] = first
			checkWhole(t, b)
			b[0], b[1] = 0, first
			checkWhole(t, b)
		}
		checkWhole(t, make([]byte, n))
	}
}

func TestKnownWholes(t *testing.T) {
	for _, c := range []struct {
		b, want string
		ok      bool
	}{
		{"", "", false},
		{"\x00", "", true},
		{"\x01", "\x01", true},
		{"\x7F", "\x7F", true},
		{"\x80", "", false},
		{"\xFF", "", false},
		{"\xFF\x7F", "", false},
		{"\x80\x00", "", false},
		{"\x00\x00", "", false},
		{"\x00\x01", "", false},
		{"\x00\x7F", "", false},
		{"\x00\x7F\xFF", "", false},
		{"\x00\x80", "\x80", true},
		{"\x00\xFF", "\xFF", true},
		{"\x00\x80\x00", "\x80\x00", true},
		{"\x00\x00\x80", "", false},
		{"\x01\x00", "\x01\x00", true},
		{"\x7F\x00\x00", "\x7F\x00\x00", true},
	} {
		if got, ok := der.Whole([]byte(c.b)); ok != c.ok || string(got) != c.want {
			t.Errorf("%X: %X, %t", c.b, got, ok)
		}
	}
}
