package cert_test

import (
	"bytes"
	"math"
	"testing"

	"cartouche/api"
	"cartouche/cert"
	"cartouche/ecdsa"
	"cartouche/edwards"
)

// noSchemes: numbers of none.
func noSchemes() []int {
	return []int{0, -1, 1, api.Ed25519 + 1, api.Ed25519 - 1, api.Ecdsa + 1, api.Ecdsa - 1, api.X25519, api.P256, -api.Ecdsa, api.Ed25519 | 1<<32, math.MaxInt, math.MinInt}
}

func TestKey(t *testing.T) {
	for n := range byte(5) {
		ed, ec := libraryKey(t, api.Ed25519, secret(n+1)), libraryKey(t, api.Ecdsa, secret(n+1))
		if !cert.Key(api.Ed25519, ed) || !cert.Key(api.Ecdsa, ec) || cert.Key(api.Ed25519, ec) || cert.Key(api.Ecdsa, ed) {
			t.Errorf("secret %d", n+1)
		}
		for _, scheme := range noSchemes() {
			if cert.Key(scheme, ed) || cert.Key(scheme, ec) || cert.Key(scheme, "") {
				t.Errorf("scheme %d", scheme)
			}
		}
	}
	ed, ec := libraryKey(t, api.Ed25519, secret(1)), libraryKey(t, api.Ecdsa, secret(1))
	for n := range 80 {
		if s := (ed + ec)[:n]; cert.Key(api.Ed25519, s) != (n == 32) {
			t.Errorf("%d bytes", n)
		}
		if s := (ec + ed)[:n]; cert.Key(api.Ecdsa, s) != (n == 65) {
			t.Errorf("%d bytes", n)
		}
	}
	for i := range 65 {
		b := []byte(ec)
		b[i] ^= 1
		if cert.Key(api.Ecdsa, string(b)) {
			t.Errorf("byte %d", i)
		}
	}
	// A y of 2 has no x; one of p + 1 isn't below p; of 1 it is nothing, a point.
	none, over, nothing := make([]byte, 32), bytes.Repeat([]byte{255}, 32), make([]byte, 32)
	none[0], over[0], over[31], nothing[0] = 2, 0xEE, 0x7F, 1
	if cert.Key(api.Ed25519, string(none)) || cert.Key(api.Ed25519, string(over)) || !cert.Key(api.Ed25519, string(nothing)) {
		t.Error("points of Ed25519")
	}
}

func TestSign(t *testing.T) {
	for n := range 4 {
		msg := bytes.Repeat([]byte{byte(n)}, 50*n)
		for _, scheme := range []int{api.Ed25519, api.Ecdsa} {
			key := secret(byte(n + 1))
			sig, e := cert.Sign(scheme, key, msg)
			if e != api.OK || string(sig) != librarySign(t, scheme, key, string(msg)) {
				t.Errorf("Sign(%d, %d): %X, %d", scheme, n, sig, e)
			}
			pub := []byte(libraryKey(t, scheme, key))
			checkVerify(t, scheme, pub, msg, sig, api.OK)
			checkVerify(t, scheme, pub, append([]byte{1}, msg...), sig, api.ErrSign)
			checkVerify(t, scheme, []byte(libraryKey(t, scheme, secret(77))), msg, sig, api.ErrSign)
		}
	}
}

func checkVerify(t *testing.T, scheme int, key, msg, sig []byte, want api.Errno) {
	t.Helper()
	if e := cert.Verify(scheme, key, msg, sig); e != want {
		t.Errorf("Verify(%d, %X, %X, %X): %d, not %d", scheme, key, msg, sig, e, want)
	}
}

func checkSignError(t *testing.T, scheme int, secret []byte, want api.Errno) {
	t.Helper()
	if b, e := cert.Sign(scheme, secret, []byte("msg")); len(b) != 0 || e != want {
		t.Errorf("Sign(%d, %X): %X, %d, not %d", scheme, secret, b, e, want)
	}
}

// The errors of both layers below stay what they are.
func TestSchemeErrors(t *testing.T) {
	ed, ec := []byte(libraryKey(t, api.Ed25519, secret(1))), []byte(libraryKey(t, api.Ecdsa, secret(1)))
	edSig, _ := edwards.Sign(secret(1), []byte("msg"))
	ecSig, _ := ecdsa.Sign(secret(1), []byte("msg"))
	msg := []byte("msg")
	for _, scheme := range noSchemes() {
		checkSignError(t, scheme, secret(1), api.ErrArg)
		checkSignError(t, scheme, nil, api.ErrArg)
		checkVerify(t, scheme, ed, msg, edSig, api.ErrArg)
		checkVerify(t, scheme, ec, msg, ecSig, api.ErrArg)
		checkVerify(t, scheme, nil, nil, nil, api.ErrArg)
	}
	for _, n := range []int{0, 31, 33} {
		checkSignError(t, api.Ed25519, make([]byte, n), api.ErrLen)
		checkSignError(t, api.Ecdsa, make([]byte, n), api.ErrLen)
	}
	checkSignError(t, api.Ecdsa, make([]byte, 32), api.ErrArg)
	checkSignError(t, api.Ecdsa, secret(255), api.ErrArg)
	checkVerify(t, api.Ed25519, ed, msg, edSig, api.OK)
	checkVerify(t, api.Ed25519, ed[1:], msg, edSig, api.ErrLen)
	checkVerify(t, api.Ed25519, ec, msg, ecSig, api.ErrLen)
	checkVerify(t, api.Ed25519, ed, msg, edSig[1:], api.ErrLen)
	checkVerify(t, api.Ed25519, secret(255), msg, edSig, api.ErrSign)
	checkVerify(t, api.Ecdsa, ec, msg, ecSig, api.OK)
	checkVerify(t, api.Ecdsa, ec[1:], msg, ecSig, api.ErrForm)
	checkVerify(t, api.Ecdsa, ed, msg, edSig, api.ErrForm)
	checkVerify(t, api.Ecdsa, append([]byte{4}, make([]byte, 64)...), msg, ecSig, api.ErrPoint)
	checkVerify(t, api.Ecdsa, ec, msg, ecSig[1:], api.ErrForm)
	checkVerify(t, api.Ecdsa, ec, msg, []byte("\x30\x06\x02\x01\x00\x02\x01\x01"), api.ErrSign)
}

// Signed: of the certificate's own scheme Verify's answer, of others ErrSign.
func TestSigned(t *testing.T) {
	for _, scheme := range []int{api.Ed25519, api.Ecdsa} {
		raw := mustMake(t, full(t), scheme, secret(7))
		c := mustParse(t, raw)
		key := libraryKey(t, scheme, secret(7))
		checkSigned(t, c, scheme, key, api.OK)
		checkSigned(t, c, scheme, libraryKey(t, scheme, secret(8)), api.ErrSign)
		for _, other := range append(noSchemes(), api.Ed25519+api.Ecdsa-scheme) {
			checkSigned(t, c, other, key, api.ErrSign)
			checkSigned(t, c, other, "", api.ErrSign)
		}
		wrong := map[int]api.Errno{api.Ed25519: api.ErrLen, api.Ecdsa: api.ErrForm}[scheme]
		checkSigned(t, c, scheme, key[1:], wrong)
		checkSigned(t, c, scheme, "", wrong)
		// A signature that is none is read all the same.
		for _, sig := range []string{"", "\x00", c.Sig[1:], c.Sig + "\x00"} {
			p := partsOf(full(t), scheme)
			p.sig = el(3, "\x00", sig)
			other := mustParse(t, p.raw())
			if other.Sig != sig {
				t.Errorf("%X, not %X", other.Sig, sig)
			}
			checkSigned(t, other, scheme, key, wrong)
		}
		// Another body, or the body's bytes by themselves, aren't what was signed.
		x := full(t)
		x.Serial++
		p := partsOf(x, scheme)
		p.sig = el(3, "\x00", c.Sig)
		checkSigned(t, mustParse(t, p.raw()), scheme, key, api.ErrSign)
		p = partsOf(full(t), scheme)
		_, in, _, _ := cutElement(p.body())
		p.sig = el(3, "\x00", librarySign(t, scheme, secret(7), in))
		checkSigned(t, mustParse(t, p.raw()), scheme, key, api.ErrSign)
	}
}

func checkSigned(t *testing.T, c cert.Cert, scheme int, key string, want api.Errno) {
	t.Helper()
	if e := c.Signed(scheme, key); e != want {
		t.Errorf("Signed(%d, %X) of %X: %d, not %d", scheme, key, c.Raw, e, want)
	}
}
