package suite

import (
	"cartouche/aes"
	"cartouche/api"
	"cartouche/chacha"
	"cartouche/gcm"
)

// A sealer is a key that seals and opens by a nonce of 12 bytes.
type sealer interface {
	seal(nonce, along, plain []byte) ([]byte, api.Errno)
	open(nonce, along, sealed []byte) ([]byte, api.Errno)
}

// sealerOf: the suite's kind of key. None keeps the bytes that it is made of.
func sealerOf(id int, key []byte) (sealer, api.Errno) {
	if id == api.Chacha {
		return chachaKey(key), api.OK
	}
	k, errno := aes.New(key)
	return gcmKey{k}, errno
}

// A gcmKey seals as layer 6 says.
type gcmKey struct {
	key *aes.Key
}

func (k gcmKey) seal(nonce, along, plain []byte) ([]byte, api.Errno) {
	return gcm.Seal(k.key, nonce, along, plain)
}

func (k gcmKey) open(nonce, along, sealed []byte) ([]byte, api.Errno) {
	return gcm.Open(k.key, nonce, along, sealed)
}

// A chachaKey seals as layer 7 says.
type chachaKey [32]byte

func (k chachaKey) seal(nonce, along, plain []byte) ([]byte, api.Errno) {
	return chacha.Seal(k[:], nonce, along, plain)
}

func (k chachaKey) open(nonce, along, sealed []byte) ([]byte, api.Errno) {
	return chacha.Open(k[:], nonce, along, sealed)
}
