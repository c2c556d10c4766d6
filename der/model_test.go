package der_test

import (
	"bytes"
	"math/big"
	"strings"
	"testing"
	"time"
)

// some: n bytes with no pattern to them, others for another seed.
func some(n int, seed uint64) []byte {
	b := make([]byte, n)
	state := seed*0x9E3779B97F4A7C15 + 611
	for i := range b {
		state = state*6364136223846793005 + 1442695040888963407
		b[i] = byte(state >> 56)
	}
	return b
}

// joined: new bytes, one behind the other.
func joined(parts ...[]byte) []byte { return bytes.Join(parts, nil) }

// lengths: how many bytes an element may have, by the bytes that say so.
var lengths = func() map[string]int {
	m := map[string]int{}
	for n := range 65536 {
		m[string(lengthBytes(n))] = n
	}
	return m
}()

// lengthBytes: the chapter's table.
func lengthBytes(n int) []byte {
	b := big.NewInt(int64(n)).Bytes()
	switch {
	case n > 127 && len(b) == 1:
		return joined([]byte{0x81}, b)
	case n > 127:
		return joined([]byte{0x82}, b)
	}
	return []byte{byte(n)}
}

// element: the bytes of one.
func element(tag byte, in []byte) []byte { return joined([]byte{tag}, lengthBytes(len(in)), in) }

// split: the element that b begins with, by the words: a tag, bytes of a length
// that stand in the table, and as many bytes.
func split(b []byte) (tag byte, in, behind []byte, ok bool) {
	if len(b) == 0 || b[0]%32 == 31 {
		return 0, nil, nil, false
	}
	for size := 1; size <= 3 && 1+size <= len(b); size++ {
		n, has := lengths[string(b[1:1+size])]
		if has && len(b) >= 1+size+n {
			return b[0], b[1+size : 1+size+n], b[1+size+n:], true
		}
	}
	return 0, nil, nil, false
}

// integer: an INTEGER's bytes. A bit more than the number has is 0, so the first one is.
func integer(n *big.Int) []byte { return n.FillBytes(make([]byte, n.BitLen()/8+1)) }

func number(b []byte) *big.Int { return new(big.Int).SetBytes(b) }

// whole: are b an INTEGER's bytes of a number that isn't below 0? Just those
// are that a number has.
func whole(b []byte) ([]byte, bool) {
	if n := number(b); bytes.Equal(integer(n), b) {
		return n.Bytes(), true
	}
	return nil, false
}

const (
	utc     = 0x17
	general = 0x18
)

// layout: of the library's times, and the year's first two digits too.
const layout = "20060102150405Z"

// seconds: what a time's bytes tell, by the library's calendar: a text is a time
// if it is how the library writes the time it reads.
func seconds(tag byte, text string) (uint64, bool) {
	if tag == utc && len(text) == 13 {
		century := "20"
		if text[:2] >= "50" {
			century = "19"
		}
		text = century + text
	} else if tag != general {
		return 0, false
	}
	at, err := time.Parse(layout, text)
	if err != nil || at.Format(layout) != text || at.Unix() < 0 {
		return 0, false
	}
	return uint64(at.Unix()), true
}

// lastSecond: of the year 9999.
const lastSecond = 253402300799

// written: a time as an element, by the library's calendar.
func written(t uint64) []byte {
	if t > lastSecond {
		return nil
	}
	text := time.Unix(int64(t), 0).UTC().Format(layout)
	if text < "2050" {
		return joined([]byte{utc, 13}, []byte(text[2:]))
	}
	return joined([]byte{general, 15}, []byte(text))
}

// The models themselves are held against what the chapter writes out.
func TestModels(t *testing.T) {
	for n, want := range map[int]string{0: "\x00", 127: "\x7F", 128: "\x81\x80", 255: "\x81\xFF", 256: "\x82\x01\x00", 65535: "\x82\xFF\xFF"} {
		if b := lengthBytes(n); string(b) != want {
			t.Errorf("length %d: %X", n, b)
		}
	}
	for n, want := range map[int64]string{0: "\x00", 127: "\x7F", 128: "\x00\x80", 255: "\x00\xFF", 256: "\x01\x00", 32768: "\x00\x80\x00"} {
		if b := integer(big.NewInt(n)); string(b) != want {
			t.Errorf("number %d: %X", n, b)
		}
	}
	if b := written(0); string(b) != "\x17\x0D700101000000Z" {
		t.Errorf("the beginning: %q", b)
	}
	if b := written(lastSecond); string(b) != "\x18\x0F99991231235959Z" {
		t.Errorf("the end: %q", b)
	}
	for text, want := range map[string]bool{"700101000000Z": true, "691231235959Z": false, "000229000000Z": true, "010229000000Z": false, "00022900000Z": false, "0002290000000Z": false, "000229000000.5Z": false, "": false} {
		if _, ok := seconds(utc, text); ok != want {
			t.Errorf("%q: %t", text, ok)
		}
	}
	if _, ok := seconds(general, "20000229000000"+strings.Repeat("Z", 2)); ok {
		t.Error("two Zs")
	}
}
