package cert

import (
	"cartouche/api"
	"cartouche/der"
	"cartouche/ecdsa"
	"cartouche/edwards"
	"cartouche/weier"
)

// What algorithms, and the kinds of keys, are called.
const (
	oidEd25519  = "\x2B\x65\x70"
	oidEcdsa    = "\x2A\x86\x48\xCE\x3D\x04\x03\x02"
	oidCurveKey = "\x2A\x86\x48\xCE\x3D\x02\x01"
	oidP256     = "\x2A\x86\x48\xCE\x3D\x03\x01\x07"
)

// Key: is it a public key of a scheme?
func Key(scheme int, key string) bool {
	switch scheme {
	case api.Ed25519:
		return edwards.Point([]byte(key))
	case api.Ecdsa:
		_, errno := weier.Decode([]byte(key))
		return errno == api.OK
	}
	return false
}

// Sign: a message, by a scheme's secret.
func Sign(scheme int, secret, msg []byte) ([]byte, api.Errno) {
	switch scheme {
	case api.Ed25519:
		return edwards.Sign(secret, msg)
	case api.Ecdsa:
		return ecdsa.Sign(secret, msg)
	}
	return nil, api.ErrArg
}

// Verify: a signature by a scheme's key.
func Verify(scheme int, key, msg, sig []byte) api.Errno {
	switch scheme {
	case api.Ed25519:
		return edwards.Verify(key, msg, sig)
	case api.Ecdsa:
		return ecdsa.Verify(key, msg, sig)
	}
	return api.ErrArg
}

// algorithm: that of a scheme's signatures, as an element; none, if there is no
// such scheme.
func algorithm(scheme int) []byte {
	switch scheme {
	case api.Ed25519:
		return der.Put(der.Seq, object(oidEd25519))
	case api.Ecdsa:
		return der.Put(der.Seq, object(oidEcdsa))
	}
	return nil
}

// kind: that of a scheme's keys, as an element; none, if there is no such scheme.
func kind(scheme int) []byte {
	if scheme == api.Ecdsa {
		return der.Put(der.Seq, object(oidCurveKey), object(oidP256))
	}
	return algorithm(scheme)
}
