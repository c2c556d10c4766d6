package aes_test

import (
	"bytes"
	libraryaes "crypto/aes"
	"encoding/hex"
	"sync"
	"testing"

	"cartouche/aes"
	"cartouche/api"
)

// some: n bytes with no pattern to them, others for another seed.
func some(n int, seed uint64) []byte {
	b := make([]byte, n)
	state := seed*0x9E3779B97F4A7C15 + 2026
	for i := range b {
		state = state*6364136223846793005 + 1442695040888963407
		b[i] = byte(state >> 56)
	}
	return b
}

func unhex(t *testing.T, s string) []byte {
	t.Helper()
	b, err := hex.DecodeString(s)
	if err != nil {
		t.Fatal(err)
	}
	return b
}

// made: the key of bytes that may be one.
func made(t *testing.T, key []byte) *aes.Key {
	t.Helper()
	k, e := aes.New(key)
	if k == nil || e != api.OK {
		t.Fatalf("the key %X: %v, %d", key, k, e)
	}
	return k
}

// library: what the library's cipher makes of a block.
func library(t *testing.T, key []byte, b [16]byte) [16]byte {
	t.Helper()
	c, err := libraryaes.NewCipher(key)
	if err != nil {
		t.Fatal(err)
	}
	var out [16]byte
	c.Encrypt(out[:], b[:])
	return out
}

// check: a block under a key, held against the library.
func check(t *testing.T, key []byte, b [16]byte) {
	t.Helper()
	if got, want := made(t, key).Block(b), library(t, key, b); got != want {
		t.Fatalf("the key %X, the block %X: %X, not %X", key, b, got, want)
	}
}

// What FIPS 197 gives in its parts B and C, SP 800-38A in F.1.1 and F.1.5, and
// the sets of the AES's known answers (GFSbox, KeySbox, VarTxt, VarKey).
func TestKnownAnswers(t *testing.T) {
	for _, c := range []struct{ key, block, want string }{
		{"000102030405060708090a0b0c0d0e0f", "00112233445566778899aabbccddeeff", "69c4e0d86a7b0430d8cdb78070b4c55a"},
		{"000102030405060708090a0b0c0d0e0f101112131415161718191a1b1c1d1e1f", "00112233445566778899aabbccddeeff", "8ea2b7ca516745bfeafc49904b496089"},
		{"2b7e151628aed2a6abf7158809cf4f3c", "3243f6a8885a308d313198a2e0370734", "3925841d02dc09fbdc118597196a0b32"},
		{"2b7e151628aed2a6abf7158809cf4f3c", "6bc1bee22e409f96e93d7e117393172a", "3ad77bb40d7a3660a89ecaf32466ef97"},
		{"2b7e151628aed2a6abf7158809cf4f3c", "ae2d8a571e03ac9c9eb76fac45af8e51", "f5d3d58503b9699de785895a96fdbaaf"},
		{"603deb1015ca71be2b73aef0857d77811f352c073b6108d72d9810a30914dff4", "6bc1bee22e409f96e93d7e117393172a", "f3eed1bdb5d2a03c064b5a7e3db181f8"},
		{"603deb1015ca71be2b73aef0857d77811f352c073b6108d72d9810a30914dff4", "ae2d8a571e03ac9c9eb76fac45af8e51", "591ccb10d410ed26dc5ba74a31362870"},
		{"00000000000000000000000000000000", "00000000000000000000000000000000", "66e94bd4ef8a2c3b884cfa59ca342b2e"},
		{"00000000000000000000000000000000", "f34481ec3cc627bacd5dc3fb08f273e6", "0336763e966d92595a567cc9ce537f5e"},
		{"10a58869d74be5a374cf867cfb473859", "00000000000000000000000000000000", "6d251e6944b051e04eaa6fb4dbf78465"},
		{"00000000000000000000000000000000", "80000000000000000000000000000000", "3ad78e726c1ec02b7ebfe92b23d9ec34"},
		{"80000000000000000000000000000000", "00000000000000000000000000000000", "0edd33d3c621e546455bd8ba1418bec8"},
		{"0000000000000000000000000000000000000000000000000000000000000000", "00000000000000000000000000000000", "dc95c078a2408989ad48a21492842087"},
	} {
		key, block := unhex(t, c.key), [16]byte(unhex(t, c.block))
		got := made(t, key).Block(block)
		if s := hex.EncodeToString(got[:]); s != c.want {
			t.Errorf("the key %s, the block %s: %s, not %s", c.key, c.block, s, c.want)
		}
	}
}

func TestKeyLengths(t *testing.T) {
	for n := range 100 {
		k, e := aes.New(some(n, 1))
		if n == 16 || n == 32 {
			if k == nil || e != api.OK {
				t.Errorf("%d bytes: %v, %d", n, k, e)
			}
		} else if k != nil || e != api.ErrLen {
			t.Errorf("%d bytes: %v, %d", n, k, e)
		}
	}
	for _, n := range []int{128, 192, 256, 256 + 16, 256 + 32, 1<<16 + 16, 1<<16 + 32, 1 << 20} {
		if k, e := aes.New(make([]byte, n)); k != nil || e != api.ErrLen {
			t.Errorf("%d bytes: %v, %d", n, k, e)
		}
	}
	if k, e := aes.New(nil); k != nil || e != api.ErrLen {
		t.Errorf("nil: %v, %d", k, e)
	}
	// Room behind a key is no part of it.
	if k, e := aes.New(make([]byte, 15, 32)); k != nil || e != api.ErrLen {
		t.Errorf("15 bytes with room behind them: %v, %d", k, e)
	}
}

// Each bit by itself, in the key and in the block, and each byte's value at each
// place of both.
func TestBitsAndBytes(t *testing.T) {
	for _, n := range []int{16, 32} {
		for bit := range 8 * n {
			key := make([]byte, n)
			key[bit/8] = 0x80 >> (bit % 8)
			check(t, key, [16]byte{})
			key = bytes.Repeat([]byte{0xFF}, n)
			key[bit/8] ^= 0x80 >> (bit % 8)
			check(t, key, [16]byte(bytes.Repeat([]byte{0xFF}, 16)))
		}
		for bit := range 128 {
			var b [16]byte
			b[bit/8] = 0x80 >> (bit % 8)
			check(t, make([]byte, n), b)
		}
		for x := range 256 {
			check(t, bytes.Repeat([]byte{byte(x)}, n), [16]byte{})
			check(t, some(n, 3), [16]byte(bytes.Repeat([]byte{byte(x)}, 16)))
			for i := range n {
				key, b := some(n, 4), [16]byte(some(16, 5))
				key[i], b[i%16] = byte(x), byte(x)
				check(t, key, b)
			}
		}
	}
}

func TestManyKeys(t *testing.T) {
	for i := range uint64(3000) {
		for _, n := range []int{16, 32} {
			check(t, some(n, i), [16]byte(some(16, i+9000)))
		}
	}
}

// One key for many blocks, each made of that ahead.
func TestManyBlocks(t *testing.T) {
	for _, n := range []int{16, 32} {
		key := some(n, 77)
		k := made(t, key)
		var b [16]byte
		for i := range 10000 {
			got := k.Block(b)
			if want := library(t, key, b); got != want {
				t.Fatalf("%d bytes of key, block %d: %X, not %X", n, i, got, want)
			}
			b = got
		}
	}
}

// A block of the same bytes in each row, or in each column, tells rows from
// columns; so does one whose bytes are all others.
func TestRowsAndColumns(t *testing.T) {
	for _, n := range []int{16, 32} {
		var rows, columns, all [16]byte
		for i := range all {
			rows[i], columns[i], all[i] = byte(i%4), byte(i/4), byte(i)
		}
		for _, b := range [][16]byte{rows, columns, all} {
			check(t, make([]byte, n), b)
			check(t, some(n, 8), b)
		}
	}
}

// The same key answers the same of the same block, whatever was asked between.
func TestSameAgain(t *testing.T) {
	k, other := made(t, some(16, 1)), made(t, some(32, 1))
	b := [16]byte(some(16, 2))
	want, otherWant := k.Block(b), other.Block(b)
	for i := range uint64(50) {
		k.Block([16]byte(some(16, i)))
		other.Block([16]byte(some(16, i)))
		made(t, some(32, i)).Block(b)
		if k.Block(b) != want || other.Block(b) != otherWant {
			t.Fatal(i)
		}
	}
	if again := made(t, some(16, 1)); again.Block(b) != want {
		t.Error("another key of the same bytes answers otherwise")
	}
	if b != [16]byte(some(16, 2)) {
		t.Error("the block has changed")
	}
}

// What is handed in is neither changed nor kept.
func TestKeyStays(t *testing.T) {
	for _, n := range []int{16, 32} {
		whole := some(n+48, 6)
		k := made(t, whole[:n])
		if !bytes.Equal(whole, some(n+48, 6)) {
			t.Errorf("%d bytes: they, or the room behind them, have changed", n)
		}
		b := [16]byte(some(16, 7))
		want := library(t, some(n, 6), b)
		clear(whole)
		if k.Block(b) != want {
			t.Errorf("%d bytes: the key hangs on them still", n)
		}
	}
}

func TestNilKey(t *testing.T) {
	var k *aes.Key
	for i := range uint64(20) {
		if b := k.Block([16]byte(some(16, i))); b != [16]byte{} {
			t.Fatalf("%X", b)
		}
	}
	if b := k.Block([16]byte{}); b != [16]byte{} {
		t.Errorf("%X", b)
	}
}

// What a key answers that New didn't make isn't said: it ends and doesn't panic.
func TestZeroKeyEnds(t *testing.T) {
	var k aes.Key
	k.Block([16]byte{})
	k.Block([16]byte(some(16, 1)))
	new(aes.Key).Block([16]byte(some(16, 2)))
}

func TestAskedAtOnce(t *testing.T) {
	key := some(32, 1)
	k := made(t, key)
	b := [16]byte(some(16, 2))
	want := library(t, key, b)
	var all sync.WaitGroup
	for range 8 {
		all.Go(func() {
			for range 200 {
				if k.Block(b) != want {
					t.Error("another block")
				}
			}
		})
	}
	all.Wait()
}

func BenchmarkBlock(b *testing.B) {
	k, _ := aes.New(make([]byte, 32))
	var block [16]byte
	for b.Loop() {
		block = k.Block(block)
	}
}
