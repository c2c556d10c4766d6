package der_test

import (
	"bytes"
	"fmt"
	"math"
	"strconv"
	"testing"

	"cartouche/api"
	"cartouche/der"
)

func checkTime(t *testing.T, tag byte, text string) {
	t.Helper()
	got, ok := der.Time(tag, []byte(text))
	want, may := seconds(tag, text)
	if got != want || ok != may {
		t.Fatalf("Time(%X, %q): %d, %t; not %d, %t", tag, text, got, ok, want, may)
	}
}

func refuseTime(t *testing.T, tag byte, text string) {
	t.Helper()
	if got, ok := der.Time(tag, []byte(text)); got != 0 || ok {
		t.Errorf("Time(%X, %q): %d, %t", tag, text, got, ok)
	}
}

// checkWhen: what is written is what the library writes, and is read as it was
// written.
func checkWhen(t *testing.T, at uint64) {
	t.Helper()
	b := der.When(at)
	if want := written(at); !bytes.Equal(b, want) {
		t.Fatalf("When(%d): %q, not %q", at, b, want)
	}
	if b == nil {
		return
	}
	tag, in, behind, e := der.Get(b)
	if back, ok := der.Time(tag, in); back != at || !ok || len(behind) != 0 || e != api.OK {
		t.Fatalf("%q: %d, %t, %d; not %d", b, back, ok, e, at)
	}
}

func TestKnownTimes(t *testing.T) {
	for at, want := range map[uint64]string{
		0:            "\x17\x0D700101000000Z", // the chapter's example
		1:            "\x17\x0D700101000001Z",
		86399:        "\x17\x0D700101235959Z",
		86400:        "\x17\x0D700102000000Z",
		5097599:      "\x17\x0D700228235959Z",
		5097600:      "\x17\x0D700301000000Z",
		68169600:     "\x17\x0D720229000000Z",
		946684799:    "\x17\x0D991231235959Z",
		946684800:    "\x17\x0D000101000000Z",
		951782400:    "\x17\x0D000229000000Z",
		1000000000:   "\x17\x0D010909014640Z",
		2147483647:   "\x17\x0D380119031407Z",
		2147483648:   "\x17\x0D380119031408Z",
		2524607999:   "\x17\x0D491231235959Z",
		2524608000:   "\x18\x0F20500101000000Z",
		4107542399:   "\x18\x0F21000228235959Z",
		4107542400:   "\x18\x0F21000301000000Z",
		4294967295:   "\x18\x0F21060207062815Z",
		4294967296:   "\x18\x0F21060207062816Z",
		253402300799: "\x18\x0F99991231235959Z",
	} {
		checkWhen(t, at)
		if b := der.When(at); string(b) != want {
			t.Errorf("%d: %q, not %q", at, b, want)
		}
		if got, ok := der.Time(want[0], []byte(want[2:])); got != at || !ok {
			t.Errorf("%q: %d, %t", want, got, ok)
		}
	}
}

func TestNoneBehind9999(t *testing.T) {
	for _, at := range []uint64{lastSecond + 1, lastSecond + 2, lastSecond + 86400, 1 << 40, 1 << 53, math.MaxInt64, math.MaxInt64 + 1, math.MaxUint64 - 1, math.MaxUint64} {
		if b := der.When(at); b != nil {
			t.Errorf("%d: %q", at, b)
		}
	}
	for i := range 63 {
		checkWhen(t, 1<<i)
		checkWhen(t, 1<<i-1)
		checkWhen(t, math.MaxUint64-1<<i)
	}
}

// The first and the last second of each day there is.
func TestAnyDay(t *testing.T) {
	for at := uint64(0); at <= lastSecond; at += 86400 {
		checkWhen(t, at)
		checkWhen(t, at+86399)
	}
}

func TestAnySecondOfADay(t *testing.T) {
	for at := range uint64(86400) {
		checkWhen(t, 951782400+at)
		checkWhen(t, 4107456000+at)
	}
}

func TestDrawnSeconds(t *testing.T) {
	for i := range uint64(20000) {
		checkWhen(t, number(some(8, i)).Uint64()%(lastSecond+1))
		checkWhen(t, number(some(8, i)).Uint64())
	}
}

// Each year's first and last day, and the 29th of February, of both kinds.
func TestAnyYear(t *testing.T) {
	for year := range 10000 {
		for _, rest := range []string{"0101000000Z", "0228235959Z", "0229000000Z", "0229235959Z", "0230000000Z", "0301000000Z", "1231235959Z"} {
			checkTime(t, general, fmt.Sprintf("%04d", year)+rest)
			checkTime(t, utc, fmt.Sprintf("%02d", year%100)+rest)
		}
	}
}

func TestKnownYears(t *testing.T) {
	for text, want := range map[string]uint64{
		"19700101000000Z": 0,
		"19991231235959Z": 946684799,
		"20000101000000Z": 946684800,
		"20491231235959Z": 2524607999, // not as When writes it, but a time
		"20500101000000Z": 2524608000,
		"24000229000000Z": 13574563200,
		"99991231235959Z": lastSecond,
	} {
		if got, ok := der.Time(der.General, []byte(text)); got != want || !ok {
			t.Errorf("%s: %d, %t", text, got, ok)
		}
	}
	for _, text := range []string{"19691231235959Z", "19500101000000Z", "19491231235959Z", "19000101000000Z", "16010101000000Z", "00010101000000Z", "00000101000000Z", "21000229000000Z", "22000229000000Z", "23000229000000Z", "25000229000000Z"} {
		refuseTime(t, der.General, text)
	}
	for text, want := range map[string]uint64{"700101000000Z": 0, "991231235959Z": 946684799, "000101000000Z": 946684800, "491231235959Z": 2524607999} {
		if got, ok := der.Time(der.Utc, []byte(text)); got != want || !ok {
			t.Errorf("%s: %d, %t", text, got, ok)
		}
	}
	for _, text := range []string{"500101000000Z", "691231235959Z", "600229000000Z"} {
		refuseTime(t, der.Utc, text)
	}
}

// All days, and all seconds, that two digits can tell.
func TestAnyDigits(t *testing.T) {
	for _, year := range []string{"1969", "1970", "1972", "1999", "2000", "2001", "2024", "2049", "2050", "2100", "2400", "9996", "9999", "0000"} {
		for n := range 10000 {
			text := fmt.Sprintf("%s%04d", year, n) + "235959Z"
			checkTime(t, general, text)
			checkTime(t, utc, text[2:])
		}
	}
	for n := range 1000000 {
		text := strconv.Itoa(1000000 + n)[1:] + "Z"
		checkTime(t, general, "20240229"+text)
	}
	for _, text := range []string{"240000", "000060", "006000", "235960", "236059", "245959", "990000", "009900", "000099"} {
		refuseTime(t, der.Utc, "000101"+text+"Z")
		refuseTime(t, der.General, "20000101"+text+"Z")
	}
}

// Any byte at any place.
func TestAnyByte(t *testing.T) {
	for tag, text := range map[byte]string{utc: "111111111111Z", general: "20111111111111Z"} {
		for at := range text {
			for x := range 256 {
				b := []byte(text)
				b[at] = byte(x)
				digit := x >= '0' && x <= '9'
				got, ok := der.Time(tag, b)
				want, may := seconds(tag, string(b))
				if at == len(text)-1 {
					may = x == 'Z'
				} else if !digit {
					may = false
				}
				if !may {
					want = 0
				}
				if got != want || ok != may {
					t.Errorf("%X, %q: %d, %t; not %d, %t", tag, b, got, ok, want, may)
				}
			}
		}
	}
}

func TestOtherTexts(t *testing.T) {
	for _, text := range []string{
		"", "Z", "ZZ", "0001010000Z", "00010100000Z", "000101000000", "0001010000000", "0001010000000Z", "000101000000ZZ",
		"000101000000z", "000101000000Z ", " 000101000000Z", "00010100000 Z", "-10101000000Z", "+10101000000Z", "0x0101000000Z",
		"000101000000+0000", "000101000000-0000", "200001010000Z", "2000010100000Z", "20000101000000", "200001010000000",
		"200001010000000Z", "20000101000000ZZ", "20000101000000.5Z", "20000101000000.0Z", "20000101000000+0000", "20000101000000z",
		"020000101000000Z", "120000101000000Z", "000101000000Z\x00", "20000101000000Z\x00", "\x0000101000000Z",
		"\xFF00101000000Z", "٠٠٠١٠١Z", "00010100000０Z", "123456789012345678901234567890Z",
	} {
		refuseTime(t, der.Utc, text)
		refuseTime(t, der.General, text)
	}
	for _, digits := range []string{"2011111111111111111111111111111111111111", "7011111111111111111111111111111111111111"} {
		for n := range digits {
			checkTime(t, utc, digits[:n]+"Z")
			checkTime(t, general, digits[:n]+"Z")
			refuseTime(t, utc, digits[:n])
			refuseTime(t, general, digits[:n])
		}
	}
	if got, ok := der.Time(der.Utc, nil); got != 0 || ok {
		t.Errorf("nil: %d, %t", got, ok)
	}
	if got, ok := der.Time(der.General, nil); got != 0 || ok {
		t.Errorf("nil: %d, %t", got, ok)
	}
}

// A time's bytes are that of one tag alone.
func TestOtherTags(t *testing.T) {
	for tag := range 256 {
		if tag != der.Utc {
			refuseTime(t, byte(tag), "110101000000Z")
			refuseTime(t, byte(tag), "701231235959Z")
		}
		if tag != der.General {
			refuseTime(t, byte(tag), "20110101000000Z")
		}
	}
}
