package ecdsa

import (
	"bytes"
	"crypto/hmac"
	"crypto/sha256"
	"testing"

	"cartouche/api"
	"cartouche/weier"
	"cartouche/words"
)

// That a draw isn't taken, no message shows that anybody could find: here the
// draws are asked for by themselves.

func code(key []byte, parts ...[]byte) []byte {
	h := hmac.New(sha256.New, key)
	h.Write(bytes.Join(parts, nil))
	return h.Sum(nil)
}

// drawn: so many draws, each of which is tried, by the chapter's words.
func drawn(d, z []byte, many int) []api.Num {
	v, k := bytes.Repeat([]byte{1}, 32), make([]byte, 32)
	for i := range byte(2) {
		k = code(k, v, []byte{i}, d, z)
		v = code(k, v)
	}
	var l []api.Num
	for len(l) < many {
		v = code(k, v)
		if n, e := weier.Secret(v); e == api.OK {
			l = append(l, n)
		}
		k = code(k, v, []byte{0})
		v = code(k, v)
	}
	return l
}

func TestDrawsNotTaken(t *testing.T) {
	for _, msg := range []string{"", "sample", "wv[vnX", "message 2493601830"} {
		// That of RFC 6979, by which the first draw for wv[vnX is no secret.
		d := api.Num{0x7B8A622B120F6721, 0x4E50C3DB36E89B12, 0x6B5C215767B1D693, 0xC9AFA9D845BA7516}
		z := number([]byte(msg))
		secret, hash := words.Bytes(d), words.Bytes(z)
		for many := 1; many < 6; many++ {
			want := drawn(secret[:], hash[:], many)
			var got []api.Num
			tryDraws(d, z, func(k api.Num) bool {
				got = append(got, k)
				return len(got) == many
			})
			if len(got) != many {
				t.Fatalf("%q: %d draws, not %d", msg, len(got), many)
			}
			for i, k := range got {
				if k != want[i] {
					t.Errorf("%q: draw %d is %X, not %X", msg, i, k, want[i])
				}
			}
		}
	}
}

// A draw by which s is 0 isn't taken; one number from it, it is.
func TestSignedNothing(t *testing.T) {
	n := weier.Order()
	for _, k := range []api.Num{{1}, {2}, {77}, weier.Base().X} {
		r := below(weier.Mult(k, weier.Base()).X)
		d := weier.Base().Y
		z := n.Sub(api.Num{}, n.Mul(r, d))
		if b, ok := signed(d, z, k); ok || b != nil {
			t.Errorf("by %X: %X", k, b)
		}
		b, ok := signed(d, n.Add(z, k), k)
		if !ok || !bytes.Equal(b, Encode(r, api.Num{1})) {
			t.Errorf("by %X, one number on: %X, %t", k, b, ok)
		}
	}
}
