package der_test

import (
	"bytes"
	"encoding/asn1"
	"testing"

	"cartouche/api"
	"cartouche/der"
)

func TestTags(t *testing.T) {
	got := []int{der.Bool, der.Int, der.Bits, der.Octets, der.Null, der.Oid, der.Utf8, der.Utc, der.General, der.Seq, der.Set}
	for i, want := range []int{0x01, 0x02, 0x03, 0x04, 0x05, 0x06, 0x0C, 0x17, 0x18, 0x30, 0x31} {
		if got[i] != want {
			t.Errorf("tag %d is %X, not %X", i, got[i], want)
		}
	}
}

// sizes: about each one at which something changes.
var sizes = []int{0, 1, 2, 3, 126, 127, 128, 129, 254, 255, 256, 257, 258, 511, 512, 4095, 4096, 32767, 32768, 65279, 65280, 65533, 65534, 65535}

// tooMany: of these the lower bytes alone would be a length, too.
var tooMany = []int{65536, 65537, 65536 + 127, 65536 + 128, 65536 + 256, 131071, 1 << 24, 1<<24 + 5}

func checkPut(t *testing.T, tag byte, want []byte, parts ...[]byte) {
	t.Helper()
	if b := der.Put(tag, parts...); !bytes.Equal(b, want) {
		t.Fatalf("Put(%X, %d parts): %d bytes, %.20X; not %d, %.20X", tag, len(parts), len(b), b, len(want), want)
	}
}

func TestPutAnyTag(t *testing.T) {
	for tag := range 256 {
		for _, n := range []int{0, 1, 127, 128, 256} {
			in := some(n, uint64(tag))
			checkPut(t, byte(tag), element(byte(tag), in), in)
		}
	}
}

func TestPutAnyLength(t *testing.T) {
	for n := range 70000 {
		if n%251 != 0 && n > 1000 && n < 65000 {
			continue
		}
		in := make([]byte, n)
		if n > 65535 {
			checkPut(t, der.Octets, nil, in)
			continue
		}
		checkPut(t, der.Octets, element(der.Octets, in), in)
	}
	for _, n := range tooMany {
		if b := der.Put(der.Octets, make([]byte, n)); b != nil {
			t.Errorf("%d bytes: %.20X", n, b)
		}
	}
}

// All parts together are counted, wherever they are cut.
func TestPutParts(t *testing.T) {
	for _, n := range append(sizes, tooMany[:5]...) {
		in := some(n, 5)
		want := []byte(nil)
		if n <= 65535 {
			want = element(der.Seq, in)
		}
		for _, at := range []int{0, 1, 2, n / 3, n / 2, n - 128, n - 2, n - 1, n} {
			if at < 0 || at > n {
				continue
			}
			checkPut(t, der.Seq, want, in[:at], in[at:])
			checkPut(t, der.Seq, want, nil, in[:at], nil, []byte{}, in[at:], nil)
			checkPut(t, der.Seq, want, in[:at/2], in[at/2:at], in[at:at+(n-at)/2], in[at+(n-at)/2:])
		}
		ones := make([][]byte, n)
		for i := range ones {
			ones[i] = in[i : i+1]
		}
		checkPut(t, der.Seq, want, ones...)
	}
}

func TestPutNothing(t *testing.T) {
	want := []byte{der.Null, 0}
	checkPut(t, der.Null, want)
	checkPut(t, der.Null, want, nil)
	checkPut(t, der.Null, want, []byte{})
	checkPut(t, der.Null, want, nil, nil, []byte{}, nil)
	checkPut(t, der.Null, want, make([][]byte, 100000)...)
}

// The sum of so many parts is no number of 32 bits: its lowest ones tell a length.
func TestPutHugeSum(t *testing.T) {
	part := make([]byte, 1<<20)
	parts := make([][]byte, 1<<12+1)
	for i := range parts {
		parts[i] = part
	}
	parts[0] = part[:5]
	checkPut(t, der.Octets, nil, parts...)
	parts[0] = nil
	checkPut(t, der.Octets, nil, parts...)
	checkPut(t, der.Octets, nil, append([][]byte{make([]byte, 65535)}, parts...)...)
}

// Go's library writes the same.
func TestPutAsLibrary(t *testing.T) {
	for tag := range 256 {
		if tag%32 == 31 {
			continue
		}
		for _, n := range sizes {
			in := some(n, uint64(tag))
			want, err := asn1.Marshal(asn1.RawValue{Class: tag >> 6, Tag: tag & 31, IsCompound: tag&32 != 0, Bytes: in})
			if err != nil {
				t.Fatal(err)
			}
			checkPut(t, byte(tag), want, in[:n/2], in[n/2:])
		}
	}
}

// checkGet: the answer is what the words say.
func checkGet(t *testing.T, b []byte) {
	t.Helper()
	tag, in, behind, e := der.Get(b)
	wantTag, wantIn, wantBehind, ok := split(b)
	if !ok {
		if tag != 0 || in != nil || behind != nil || e != api.ErrForm {
			t.Fatalf("Get(%.20X of %d): %X, %.20X, %.20X, %d", b, len(b), tag, in, behind, e)
		}
		return
	}
	if tag != wantTag || !bytes.Equal(in, wantIn) || !bytes.Equal(behind, wantBehind) || e != api.OK {
		t.Fatalf("Get(%.20X of %d): %X, %d bytes, %d behind, %d; not %X, %d, %d", b, len(b), tag, len(in), len(behind), e, wantTag, len(wantIn), len(wantBehind))
	}
}

// There and back: what was put is got, whatever stands behind it.
func TestPutIsGot(t *testing.T) {
	for tag := range 256 {
		for _, n := range sizes {
			in, behind := some(n, uint64(tag)), some(tag%5, uint64(n))
			b := joined(der.Put(byte(tag), in[:n/3], in[n/3:]), behind)
			gotTag, gotIn, gotBehind, e := der.Get(b)
			if tag%32 == 31 {
				if gotTag != 0 || gotIn != nil || gotBehind != nil || e != api.ErrForm {
					t.Fatalf("tag %X: %X, %d", tag, gotTag, e)
				}
				continue
			}
			if gotTag != byte(tag) || !bytes.Equal(gotIn, in) || !bytes.Equal(gotBehind, behind) || e != api.OK {
				t.Fatalf("tag %X, %d bytes: %X, %d, %d behind, %d", tag, n, gotTag, len(gotIn), len(gotBehind), e)
			}
		}
	}
}

// Every beginning, with bytes behind it that suffice for none, some or all.
func TestGetAnyBeginning(t *testing.T) {
	for tag := range 256 {
		checkGet(t, []byte{byte(tag)})
		for first := range 256 {
			checkGet(t, []byte{byte(tag), byte(first)})
			checkGet(t, joined([]byte{byte(tag), byte(first)}, some(127, 1)))
			checkGet(t, joined([]byte{byte(tag), byte(first)}, some(300, 2)))
			checkGet(t, joined([]byte{byte(tag), byte(first)}, make([]byte, 300)))
		}
	}
	checkGet(t, nil)
	checkGet(t, []byte{})
}

func TestGetAnyLength(t *testing.T) {
	room := some(65535+6, 3)
	room[0] = der.Octets
	edges := []byte{0, 1, 2, 127, 128, 129, 254, 255}
	for first := range 256 {
		for second := range 256 {
			if first != 0x81 && first != 0x82 && !bytes.Contains(edges, []byte{byte(second)}) {
				continue
			}
			for _, third := range edges {
				room[1], room[2], room[3] = byte(first), byte(second), third
				checkGet(t, room)
				checkGet(t, room[:1000])
				checkGet(t, room[:4])
				checkGet(t, room[:3])
			}
		}
	}
}

// Lengths that aren't the shortest, ones of three bytes and more, ones that
// aren't told, and tags of many bytes: whatever stands behind.
func TestGetNone(t *testing.T) {
	for name, head := range map[string]string{
		"0 in one byte":            "\x02\x81\x00",
		"1 in one byte":            "\x02\x81\x01",
		"127 in one byte":          "\x02\x81\x7F",
		"0 in two bytes":           "\x02\x82\x00\x00",
		"127 in two bytes":         "\x02\x82\x00\x7F",
		"128 in two bytes":         "\x02\x82\x00\x80",
		"255 in two bytes":         "\x02\x82\x00\xFF",
		"5 in three bytes":         "\x02\x83\x00\x00\x05",
		"65535 in three bytes":     "\x02\x83\x00\xFF\xFF",
		"65536":                    "\x02\x83\x01\x00\x00",
		"5 in four bytes":          "\x02\x84\x00\x00\x00\x05",
		"5 in eight bytes":         "\x02\x88\x00\x00\x00\x00\x00\x00\x00\x05",
		"below 0, in eight bytes":  "\x02\x88\xFF\xFF\xFF\xFF\xFF\xFF\xFF\xFF",
		"no length told":           "\x30\x80\x02\x01\x00\x00\x00",
		"a length that may not be": "\x02\xFF",
		"the tag 1F":               "\x1F\x01\x00",
		"the tag 3F":               "\x3F\x01\x00",
		"the tag 5F":               "\x5F\x21\x00",
		"the tag 7F":               "\x7F\x21\x00",
		"the tag 9F":               "\x9F\x21\x00",
		"the tag BF":               "\xBF\x21\x00",
		"the tag DF":               "\xDF\x21\x00",
		"the tag FF":               "\xFF\x21\x00",
	} {
		for _, behind := range []int{0, 1, 5, 200, 70000} {
			refuseGet(t, name, joined([]byte(head), make([]byte, behind)))
		}
	}
}

func refuseGet(t *testing.T, name string, b []byte) {
	t.Helper()
	tag, in, behind, e := der.Get(b)
	if tag != 0 || in != nil || behind != nil || e != api.ErrForm {
		t.Errorf("%s, %d bytes: %X, %d bytes, %d behind, %d", name, len(b), tag, len(in), len(behind), e)
	}
}

// An element that is cut off anywhere is none.
func TestGetCutOff(t *testing.T) {
	for _, n := range []int{0, 1, 2, 127, 128, 129, 255, 256, 257, 1000, 65534, 65535} {
		b := element(der.Octets, some(n, 4))
		for at := range len(b) {
			refuseGet(t, "cut off", b[:at])
		}
		checkGet(t, b)
	}
}

// All texts of four bytes of some kinds, and drawn ones.
func TestGetManyTexts(t *testing.T) {
	kinds := []byte{0x00, 0x01, 0x02, 0x05, 0x1E, 0x1F, 0x30, 0x7F, 0x80, 0x81, 0x82, 0x83, 0xA0, 0xFF}
	for _, a := range kinds {
		for _, b := range kinds {
			for _, c := range kinds {
				for _, d := range kinds {
					checkGet(t, []byte{a, b, c, d})
					checkGet(t, []byte{a, b, c, d, a, b, c, d})
				}
			}
		}
	}
	for i := range uint64(20000) {
		b := some(int(i%40), i)
		for at := range b {
			b[at] = kinds[int(b[at])%len(kinds)]
		}
		checkGet(t, b)
		checkGet(t, some(int(i%300), i))
	}
}

// What is handed in stays as it was, the room behind it too.
func TestArgumentsStay(t *testing.T) {
	room := some(400, 1)
	was := bytes.Clone(room)
	parts := [][]byte{room[:100], nil, room[100:200], room[50:150]}
	der.Put(der.Seq, parts...)
	der.Put(der.Seq, parts[:2]...)
	if len(parts[0]) != 100 || parts[1] != nil || len(parts[2]) != 100 || len(parts[3]) != 100 || &parts[0][0] != &room[0] {
		t.Error("Put turned the list of its parts")
	}
	copy(room[200:], element(der.Octets, some(150, 2)))
	copy(was[200:], element(der.Octets, some(150, 2)))
	der.Get(room[200:360])
	der.Get(room[200:300])
	der.Natural(room[:30])
	der.Whole(room[:30])
	der.Whole([]byte{0}[:1])
	r := der.From(room[200:360])
	r.In(der.Octets).Take(der.Int)
	r.Take(der.Int)
	if !bytes.Equal(room, was) {
		t.Error("bytes that were handed in were turned")
	}
	text := []byte("000229123456Z and more")
	der.Time(der.Utc, text[:13])
	der.Time(der.Utc, text)
	der.Time(der.General, text[:15])
	if string(text) != "000229123456Z and more" {
		t.Errorf("%q", text)
	}
}

// fill: all of a list's memory, the room behind it too.
func fill(b []byte) {
	for i := range b[:cap(b)] {
		b[:cap(b)][i] = 0xEE
	}
}

// Answers are memory of their own: who writes into one turns no other one, and
// nothing that was handed in.
func TestNothingShared(t *testing.T) {
	b := joined(element(der.Octets, some(20, 1)), some(30, 2))
	was := bytes.Clone(b)
	_, in, behind, _ := der.Get(b)
	fill(in)
	if !bytes.Equal(behind, was[22:]) || !bytes.Equal(b, was) {
		t.Error("an element's bytes are others'")
	}
	fill(behind)
	if !bytes.Equal(b, was) {
		t.Error("what is behind is others'")
	}
	_, in, behind, _ = der.Get(b)
	fill(b)
	if !bytes.Equal(in, was[2:22]) || !bytes.Equal(behind, was[22:]) {
		t.Error("what was handed in is an answer")
	}
	part := some(20, 1)
	one := der.Put(der.Octets, part)
	fill(part)
	if !bytes.Equal(one, element(der.Octets, some(20, 1))) {
		t.Error("Put's part is an answer")
	}
	n := []byte{0, 0x81, 0x82}
	w, _ := der.Whole(n)
	i := der.Natural(n)
	fill(n)
	if !bytes.Equal(w, []byte{0x81, 0x82}) || !bytes.Equal(i, []byte{2, 3, 0, 0x81, 0x82}) {
		t.Errorf("%X, %X", w, i)
	}
}

// What a call answered before, and who wrote into it, changes nothing.
func TestSameAgain(t *testing.T) {
	for range 3 {
		for _, c := range []struct{ got, want []byte }{
			{der.Put(der.Null), []byte{5, 0}},
			{der.Put(der.Octets, []byte{7}), []byte{4, 1, 7}},
			{der.Number(0), []byte{2, 1, 0}},
			{der.Number(128), []byte{2, 2, 0, 128}},
			{der.Natural(nil), []byte{2, 1, 0}},
			{der.When(0), []byte("\x17\x0D700101000000Z")},
			{der.When(lastSecond), []byte("\x18\x0F99991231235959Z")},
		} {
			if !bytes.Equal(c.got, c.want) {
				t.Fatalf("%X, not %X", c.got, c.want)
			}
			fill(c.got)
		}
	}
}
