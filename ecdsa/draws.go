package ecdsa

import (
	"bytes"

	"cartouche/api"
	"cartouche/mac"
	"cartouche/weier"
	"cartouche/words"
)

// tryDraws: the draws for a secret and a message's number, one behind the other,
// until one is taken.
func tryDraws(d, z api.Num, taken func(api.Num) bool) {
	s := seeded(d, z)
	for {
		s.v = s.code()
		if k, errno := weier.Secret(s.v); errno == api.OK && taken(k) {
			return
		}
		s.stir([]byte{0})
	}
}

// A source of draws: its key, and the bytes that it told last.
type source struct{ key, v []byte }

// seeded: the source of a secret and a message's number modulo the order.
func seeded(d, z api.Num) *source {
	secret, hash := words.Bytes(d), words.Bytes(z)
	s := &source{key: make([]byte, size), v: bytes.Repeat([]byte{1}, size)}
	for i := range byte(2) {
		s.stir([]byte{i}, secret[:], hash[:])
	}
	return s
}

// stir: another key, of what was told last and these parts, and what it tells.
func (s *source) stir(parts ...[]byte) {
	s.key = s.code(parts...)
	s.v = s.code()
}

// code: of what was told last, and these parts.
func (s *source) code(parts ...[]byte) []byte {
	return mac.Hmac(api.Sha256, s.key, append([][]byte{s.v}, parts...)...)
}
