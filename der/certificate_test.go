package der_test

import (
	"bytes"
	"encoding/asn1"
	"encoding/hex"
	"testing"

	"cartouche/api"
	"cartouche/der"
)

// made: a certificate that OpenSSL 3.0 made (by Ed25519, from the last second of
// 1999 to the first one of 2050), with lengths of all three kinds and times of
// both.
const made = "308201383081EBA003020102020B0080FF00FF00FF00FF00FF300506032B657030193117301506035504030C0E636172746F756368652E746573743020170D39" +
	"39313233313233353935395A180F32303530303130313030303030305A30193117301506035504030C0E636172746F756368652E74657374302A300506032B65" +
	"7003210003A107BFF3CE10BE1D70DD18E74BC09967E4D6309BA50D5F1DDC8664125531B8A34C304A30120603551D130101FF040830060101FF02010030150603" +
	"551D11040E300C8203612E6282052A2E632E64301D0603551D0E04160414FD81A6DB64D6FAF7F702C07971A82C25C1DC3C90300506032B657003410013F89F7A" +
	"C93467E31B884F58B0AAE6FDCEFA77B26648BDD6A2F0B0D6A1577EE813A1BAFE3A8041F298A10539FB398DF398D50BCBB12F9503A9C8CCF3848E3303"

func certificate(t *testing.T) []byte {
	t.Helper()
	b, err := hex.DecodeString(made)
	if err != nil {
		t.Fatal(err)
	}
	return b
}

const subject = "cartouche.test"

var (
	serial    = []byte{0x80, 0xFF, 0, 0xFF, 0, 0xFF, 0, 0xFF, 0, 0xFF}
	algorithm = []byte{0x2B, 0x65, 0x70}
)

const (
	notBefore = 946684799
	notAfter  = 2524608000
)

func checkAlgorithm(t *testing.T, r *der.Reader) {
	t.Helper()
	checkTake(t, r, der.Oid, algorithm)
	checkDone(t, r, true)
}

func checkName(t *testing.T, r *der.Reader) {
	t.Helper()
	set := r.In(der.Set)
	pair := set.In(der.Seq)
	checkTake(t, pair, der.Oid, []byte{0x55, 4, 3})
	checkTake(t, pair, der.Utf8, []byte(subject))
	checkDone(t, pair, true)
	checkDone(t, set, true)
	checkDone(t, r, true)
}

func TestReadCertificate(t *testing.T) {
	all := der.From(certificate(t))
	r := all.In(der.Seq)
	checkDone(t, all, true)
	body := r.In(der.Seq)
	version := body.In(0xA0)
	checkTake(t, version, der.Int, []byte{2})
	checkDone(t, version, true)
	if n, ok := der.Whole(body.Take(der.Int)); !ok || !bytes.Equal(n, serial) {
		t.Errorf("serial %X, %t", n, ok)
	}
	checkAlgorithm(t, body.In(der.Seq))
	checkName(t, body.In(der.Seq))
	times := body.In(der.Seq)
	checkNext(t, times, der.Utc)
	if at, ok := der.Time(der.Utc, times.Take(der.Utc)); at != notBefore || !ok {
		t.Errorf("from %d, %t", at, ok)
	}
	checkNext(t, times, der.General)
	if at, ok := der.Time(der.General, times.Take(der.General)); at != notAfter || !ok {
		t.Errorf("to %d, %t", at, ok)
	}
	checkDone(t, times, true)
	checkName(t, body.In(der.Seq))
	key := body.In(der.Seq)
	checkAlgorithm(t, key.In(der.Seq))
	if b := key.Take(der.Bits); len(b) != 33 || b[0] != 0 {
		t.Errorf("key %X", b)
	}
	checkDone(t, key, true)
	checkNext(t, body, 0xA3)
	list := body.In(0xA3)
	extensions := list.In(der.Seq)
	checkDone(t, list, true)
	n := 0
	for extensions.Next(der.Seq) {
		one := extensions.In(der.Seq)
		one.Take(der.Oid)
		if one.Next(der.Bool) {
			checkTake(t, one, der.Bool, []byte{0xFF})
		}
		one.Take(der.Octets)
		checkDone(t, one, true)
		n++
	}
	checkDone(t, extensions, true)
	if n != 3 {
		t.Errorf("%d extensions", n)
	}
	checkDone(t, body, true)
	checkAlgorithm(t, r.In(der.Seq))
	if b := r.Take(der.Bits); len(b) != 65 || b[0] != 0 {
		t.Errorf("signature %X", b)
	}
	checkDone(t, r, true)
}

// There and back: the same bytes, written anew.
func TestWriteCertificate(t *testing.T) {
	want := certificate(t)
	kind := der.Put(der.Seq, der.Put(der.Oid, algorithm))
	name := der.Put(der.Seq, der.Put(der.Set, der.Put(der.Seq, der.Put(der.Oid, []byte{0x55, 4, 3}), der.Put(der.Utf8, []byte(subject)))))
	critical := der.Put(der.Bool, []byte{0xFF})
	key, hash, signature := want[132:164], want[222:242], want[252:]
	extensions := der.Put(0xA3, der.Put(der.Seq,
		der.Put(der.Seq, der.Put(der.Oid, []byte{0x55, 0x1D, 0x13}), critical, der.Put(der.Octets, der.Put(der.Seq, critical, der.Number(0)))),
		der.Put(der.Seq, der.Put(der.Oid, []byte{0x55, 0x1D, 0x11}), der.Put(der.Octets, der.Put(der.Seq, der.Put(0x82, []byte("a.b")), der.Put(0x82, []byte("*.c.d"))))),
		der.Put(der.Seq, der.Put(der.Oid, []byte{0x55, 0x1D, 0x0E}), der.Put(der.Octets, der.Put(der.Octets, hash))),
	))
	body := der.Put(der.Seq,
		der.Put(0xA0, der.Number(2)), der.Natural(serial), kind, name,
		der.Put(der.Seq, der.When(notBefore), der.When(notAfter)), name,
		der.Put(der.Seq, kind, der.Put(der.Bits, []byte{0}, key)), extensions,
	)
	got := der.Put(der.Seq, body, kind, der.Put(der.Bits, []byte{0}, signature))
	if !bytes.Equal(got, want) {
		t.Errorf("%X", got)
	}
}

// Each element, as deep as they go, is what Go's library reads (OpenSSL lists
// 39); cut off anywhere the certificate is none.
func TestCertificateAsLibrary(t *testing.T) {
	b := certificate(t)
	for at := range len(b) {
		if tag, in, behind, e := der.Get(b[:at]); tag != 0 || in != nil || behind != nil || e != api.ErrForm {
			t.Fatalf("%d bytes: %X, %d", at, tag, e)
		}
	}
	if n := checkElements(t, b); n != 39 {
		t.Errorf("%d elements", n)
	}
}

// checkElements: how many there are, those within others too.
func checkElements(t *testing.T, b []byte) int {
	t.Helper()
	count := 0
	for len(b) > 0 {
		var v asn1.RawValue
		rest, err := asn1.Unmarshal(b, &v)
		if err != nil {
			t.Fatal(err)
		}
		tag, in, behind, e := der.Get(b)
		if e != api.OK || tag != v.FullBytes[0] || !bytes.Equal(in, v.Bytes) || !bytes.Equal(behind, rest) {
			t.Fatalf("%.20X: %X, %X, %d", b, tag, in, e)
		}
		count++
		if v.IsCompound {
			count += checkElements(t, in)
		}
		b = behind
	}
	return count
}
