package der_test

import (
	"bytes"
	"testing"

	"cartouche/der"
)

// checkNext: of all tags, Next tells just this one (-1: none).
func checkNext(t *testing.T, r *der.Reader, want int) {
	t.Helper()
	for tag := range 256 {
		if got := r.Next(byte(tag)); got != (tag == want) {
			t.Fatalf("Next(%X) is %t, where %X is next", tag, got, want)
		}
	}
}

func checkTake(t *testing.T, r *der.Reader, tag byte, want []byte) {
	t.Helper()
	if got := r.Take(tag); !bytes.Equal(got, want) {
		t.Fatalf("Take(%X): %.20X, not %.20X", tag, got, want)
	}
}

func checkDone(t *testing.T, r *der.Reader, want bool) {
	t.Helper()
	if got := r.Done(); got != want {
		t.Fatalf("Done is %t", got)
	}
}

// checkFailed: nothing is left, for good.
func checkFailed(t *testing.T, r *der.Reader) {
	t.Helper()
	for range 2 {
		checkNext(t, r, -1)
		checkDone(t, r, false)
		for tag := range 256 {
			if b := r.Take(byte(tag)); len(b) != 0 {
				t.Fatalf("Take(%X) of one that has failed: %X", tag, b)
			}
		}
		for _, tag := range []byte{0, der.Int, der.Octets, der.Seq, 0x1F, 0xFF} {
			in := r.In(tag)
			if in == nil {
				t.Fatalf("In(%X) of one that has failed is nil", tag)
			}
			checkNext(t, in, -1)
			checkDone(t, in, false)
			if b := in.Take(tag); len(b) != 0 {
				t.Fatalf("Take(%X) in one that has failed: %X", tag, b)
			}
			checkDone(t, in.In(tag), false)
		}
	}
}

func TestReader(t *testing.T) {
	r := der.From(joined(der.Number(128), der.Put(der.Null), der.Put(der.Octets, some(300, 1)), der.Put(der.Bool, []byte{0xFF})))
	checkNext(t, r, der.Int)
	checkNext(t, r, der.Int)
	checkDone(t, r, false)
	checkTake(t, r, der.Int, []byte{0, 128})
	checkNext(t, r, der.Null)
	checkDone(t, r, false)
	checkTake(t, r, der.Null, nil)
	checkNext(t, r, der.Octets)
	checkTake(t, r, der.Octets, some(300, 1))
	checkNext(t, r, der.Bool)
	checkDone(t, r, false)
	checkTake(t, r, der.Bool, []byte{0xFF})
	checkNext(t, r, -1)
	checkDone(t, r, true)
	checkDone(t, r, true)
	checkTake(t, r, der.Bool, nil)
	checkFailed(t, r)
}

func TestReaderOfNothing(t *testing.T) {
	for _, b := range [][]byte{nil, {}} {
		r := der.From(b)
		if r == nil {
			t.Fatal("a reader of nothing is nil")
		}
		checkNext(t, r, -1)
		checkDone(t, r, true)
		checkTake(t, r, 0, nil)
		checkFailed(t, r)
		r = der.From(b)
		checkFailed(t, r.In(der.Seq))
		checkFailed(t, r)
	}
}

func TestNilReader(t *testing.T) {
	var r *der.Reader
	checkFailed(t, r)
	checkFailed(t, r.In(der.Seq))
	if b := r.Take(der.Seq); b != nil {
		t.Errorf("%X", b)
	}
}

// Any tag is taken by itself alone; none whose lowest five bits are all 1.
func TestReaderAnyTag(t *testing.T) {
	for has := range 256 {
		b := joined(der.Put(byte(has), []byte{1, 2, 3}), der.Number(5))
		checkNext(t, der.From(b), has)
		for tag := range 256 {
			r, other := der.From(b), der.From(b)
			got, in := r.Take(byte(tag)), other.In(byte(tag))
			if has != tag || has%32 == 31 {
				if len(got) != 0 || r.Done() || r.Next(der.Int) || in.Done() || in.Next(1) || other.Done() || other.Next(der.Int) {
					t.Fatalf("Take(%X) of %X: %X", tag, has, got)
				}
				continue
			}
			if !bytes.Equal(got, []byte{1, 2, 3}) || !r.Next(der.Int) || !in.Next(1) || in.Done() || !other.Next(der.Int) {
				t.Fatalf("Take(%X) of %X: %X", tag, has, got)
			}
			checkTake(t, r, der.Int, []byte{5})
			checkDone(t, r, true)
		}
	}
}

// A tag that another one is asked for makes the reader fail, though the bytes
// would go on as they should.
func TestReaderFails(t *testing.T) {
	good := joined(der.Number(1), der.Number(2), der.Put(der.Seq, der.Number(3)))
	for name, b := range map[string][]byte{
		"another tag":        joined(der.Put(der.Octets), good),
		"a tag 1F":           joined([]byte{0x1F, 0}, good),
		"a length too long":  joined([]byte{der.Int, 0x81, 1, 7}, good),
		"an endless one":     joined([]byte{der.Int, 0x80}, good),
		"three bytes' worth": joined([]byte{der.Int, 0x83, 0, 0, 1, 7}, good),
		"cut off":            {der.Int, 2, 1},
		"a tag alone":        {der.Int},
		"nothing":            {},
	} {
		t.Run(name, func(t *testing.T) {
			r := der.From(b)
			checkTake(t, r, der.Int, nil)
			checkFailed(t, r)
			r = der.From(b)
			checkFailed(t, r.In(der.Int))
			checkFailed(t, r)
			r = der.From(joined(good, b))
			checkTake(t, r, der.Int, []byte{1})
			checkTake(t, r, der.Int, []byte{2})
			in := r.In(der.Seq)
			checkTake(t, r, der.Int, nil)
			checkFailed(t, r)
			checkTake(t, in, der.Int, []byte{3})
			checkDone(t, in, true)
		})
	}
}

// Next looks at a byte: whether an element begins there Take tells.
func TestNextLooksAtOneByte(t *testing.T) {
	for _, b := range [][]byte{{der.Int}, {der.Int, 0x81, 1, 7}, {der.Int, 5, 1}, {0x1F}, {0x1F, 0}, {0xFF, 1, 2}, {0}} {
		r := der.From(b)
		checkNext(t, r, int(b[0]))
		checkDone(t, r, false)
		checkTake(t, r, b[0], nil)
		checkFailed(t, r)
	}
}

// What an element holds is read by a reader of its own: neither hears of what
// becomes of the other one.
func TestIn(t *testing.T) {
	inner := joined(der.Number(1), der.Number(2))
	r := der.From(joined(der.Put(der.Seq, inner), der.Put(der.Set, inner), der.Put(der.Seq), der.Number(9)))
	seq, set, none := r.In(der.Seq), r.In(der.Set), r.In(der.Seq)
	checkNext(t, r, der.Int)
	checkDone(t, none, true)
	checkTake(t, none, der.Int, nil)
	checkFailed(t, none)
	checkTake(t, seq, der.Octets, nil)
	checkFailed(t, seq)
	checkTake(t, set, der.Int, []byte{1})
	checkDone(t, set, false)
	checkTake(t, r, der.Int, []byte{9})
	checkDone(t, r, true)
	checkTake(t, r, der.Int, nil)
	checkFailed(t, r)
	checkTake(t, set, der.Int, []byte{2})
	checkDone(t, set, true)
	checkNext(t, set, -1)
}

// An element ends where its length says, though one that it holds would go on.
func TestInEnds(t *testing.T) {
	r := der.From([]byte{der.Seq, 3, der.Int, 2, 1, der.Int, 0})
	in := r.In(der.Seq)
	checkNext(t, in, der.Int)
	checkTake(t, in, der.Int, nil)
	checkFailed(t, in)
	checkTake(t, r, der.Int, nil)
	checkDone(t, r, true)
}

func TestInDeep(t *testing.T) {
	b, deep := der.Number(7), 0
	for {
		next := der.Put(der.Seq, b)
		if next == nil {
			break
		}
		b, deep = next, deep+1
	}
	r := der.From(b)
	for range deep {
		in := r.In(der.Seq)
		checkDone(t, r, true)
		r = in
	}
	checkTake(t, r, der.Int, []byte{7})
	checkDone(t, r, true)
}

// A reader keeps none of the bytes it was handed, and what it answers is
// nobody else's.
func TestReaderKeepsItsOwn(t *testing.T) {
	b := joined(der.Put(der.Seq, der.Number(1), der.Number(2)), der.Put(der.Octets, some(20, 1)), der.Put(der.Octets, some(20, 2)))
	r := der.From(b)
	fill(b)
	in := r.In(der.Seq)
	one := r.Take(der.Octets)
	if !bytes.Equal(one, some(20, 1)) {
		t.Fatalf("%X", one)
	}
	fill(one)
	checkTake(t, r, der.Octets, some(20, 2))
	first := in.Take(der.Int)
	fill(first)
	checkTake(t, in, der.Int, []byte{2})
	checkDone(t, in, true)
	checkDone(t, r, true)
}

// Readers of the same bytes are each their own.
func TestTwoReaders(t *testing.T) {
	b := joined(der.Number(1), der.Number(2))
	one, other := der.From(b), der.From(b)
	checkTake(t, one, der.Int, []byte{1})
	checkTake(t, other, der.Null, nil)
	checkFailed(t, other)
	checkTake(t, one, der.Int, []byte{2})
	checkDone(t, one, true)
	if string(b) != "\x02\x01\x01\x02\x01\x02" {
		t.Errorf("%X", b)
	}
}

// told: a reader as the words say it.
type told struct {
	left   []byte
	failed bool
}

func (m *told) take(tag byte) ([]byte, bool) {
	has, in, behind, ok := split(m.left)
	if !ok || has != tag || m.failed {
		m.left, m.failed = nil, true
		return nil, false
	}
	m.left = behind
	return in, true
}

// drawnText: elements one behind the other, also within each other, some of
// them broken.
func drawnText(draws []byte, depth int) []byte {
	var b []byte
	for i := 0; i+2 < len(draws); i += 3 {
		tag := []byte{der.Int, der.Octets, der.Seq, der.Seq}[draws[i]%4]
		in := some(int(draws[i+1]%5), uint64(draws[i+2]))
		if tag == der.Seq && depth > 0 {
			in = drawnText(some(int(draws[i+1]%13), uint64(draws[i+2])), depth-1)
		}
		e := element(tag, in)
		if draws[i+2]%16 == 0 {
			e[int(draws[i+1])%len(e)] ^= 1 << (draws[i] % 8)
		}
		b = append(b, e...)
	}
	return b
}

// Drawn calls on drawn texts: each answer is what the words say.
func TestDrawnReading(t *testing.T) {
	for i := range uint64(20000) {
		draws := some(60, i)
		text := drawnText(draws[:20], 3)
		readers, models := []*der.Reader{der.From(text)}, []*told{{left: text}}
		for _, d := range draws[20:] {
			at := int(d/16) % len(readers)
			r, m := readers[at], models[at]
			tag := []byte{der.Int, der.Octets, der.Seq, 0x1F}[d%4]
			if d%16 < 14 && len(m.left) > 0 {
				tag = m.left[0]
			}
			if got, want := r.Next(tag), len(m.left) > 0 && m.left[0] == tag; got != want {
				t.Fatalf("draw %d: Next(%X) is %t", i, tag, got)
			}
			in, ok := m.take(tag)
			if d%2 == 0 {
				readers, models = append(readers, r.In(tag)), append(models, &told{left: in, failed: !ok})
			} else {
				checkTake(t, r, tag, in)
			}
			for k, r := range readers {
				checkDone(t, r, !models[k].failed && len(models[k].left) == 0)
			}
		}
	}
}
