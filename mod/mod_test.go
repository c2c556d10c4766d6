package mod_test

import (
	"bytes"
	"math"
	"math/big"
	"sync"
	"testing"

	"cartouche/api"
	"cartouche/mod"
	"cartouche/words"
)

const top = math.MaxUint64

// The primes of the curves and the orders of their bases.
const (
	prime25519 = "7FFFFFFFFFFFFFFFFFFFFFFFFFFFFFFFFFFFFFFFFFFFFFFFFFFFFFFFFFFFFFED"
	order25519 = "1000000000000000000000000000000014DEF9DEA2F79CD65812631A5CF5D3ED"
	prime256   = "FFFFFFFF00000001000000000000000000000000FFFFFFFFFFFFFFFFFFFFFFFF"
	order256   = "FFFFFFFF00000000FFFFFFFFFFFFFFFFBCE6FAADA7179E84F3B9CAC2FC632551"
)

// small is a small number.
func small(n uint64) api.Num { return api.Num{n} }

// parsed is a number written in base 16.
func parsed(t *testing.T, text string) api.Num {
	t.Helper()
	n, ok := new(big.Int).SetString(text, 16)
	if !ok {
		t.Fatal("not base 16:", text)
	}
	return narrow(n)
}

// wide is a number as one of math/big.
func wide(n api.Num) *big.Int {
	b := words.Bytes(n)
	return new(big.Int).SetBytes(b[:])
}

// narrow is a number of math/big, 0 to 2^256 - 1, as one of 256 bits.
func narrow(n *big.Int) api.Num {
	r, _ := words.Big(n.FillBytes(make([]byte, 32)))
	return r
}

// made is the reckoning modulo m, that must be taken.
func made(t *testing.T, m api.Num) *mod.Mod {
	t.Helper()
	x, e := mod.New(m)
	if e != api.OK || x == nil {
		t.Fatalf("New(%x): %v %v", m, x, e)
	}
	return x
}

// draws is numbers with no pattern to them, always the same ones.
func draws(n int) []api.Num {
	var l []api.Num
	state := uint64(2026)
	for range n {
		var d api.Num
		for i := range d {
			state = state*6364136223846793005 + 1442695040888963407
			d[i] = state ^ state>>29
		}
		l = append(l, d)
	}
	return l
}

// moduli is odd ones of all sizes, prime and not, full of zeros and full of ones.
func moduli(t *testing.T) []api.Num {
	l := []api.Num{
		{3}, {5}, {7}, {9}, {15}, {65537}, {1<<32 - 1}, {1<<63 - 25}, {1<<63 + 1}, {top - 58}, {top},
		{1, 1}, {13, 1}, {top, top}, {top - 158, top}, {1, 0, 1}, {top, top, top}, {top - 236, top, top},
		{1, 0, 0, 1}, {1, 0, 0, 1 << 63}, {top, top, top, 1<<63 - 1},
		{top - 188, top, top, top}, {top - 2, top, top, top}, {top, top, top, top},
		parsed(t, prime25519), parsed(t, order25519), parsed(t, prime256), parsed(t, order256),
	}
	for _, d := range draws(6) {
		d[0] |= 1
		l = append(l, d)
	}
	return l
}

// operands is numbers that are below m, at it, about its multiples and above it.
func operands(m api.Num) []api.Num {
	l := []api.Num{
		{}, {1}, {2}, {3}, {top}, {0, 1}, {0, 0, 1}, {0, 0, 0, 1}, {0, 0, 0, 1 << 63},
		{top - 1, top, top, top}, {top, top, top, top},
	}
	for _, factor := range []api.Num{{1}, {2}, {3}, {0, 1}, {0, 0, 0, 1}} {
		multiple := new(big.Int).Mul(wide(m), wide(factor))
		for d := int64(-2); d <= 2; d++ {
			n := new(big.Int).Add(multiple, big.NewInt(d))
			if n.BitLen() <= 256 {
				l = append(l, narrow(n))
			}
		}
	}
	return append(l, draws(4)...)
}

func TestNewTakesOddNumbersAbove1(t *testing.T) {
	for _, m := range moduli(t) {
		if x := made(t, m); x.Modulus() != m {
			t.Fatalf("modulus of %x: %x", m, x.Modulus())
		}
	}
	// Their lowest word alone is 1.
	for _, m := range []api.Num{{1, 1}, {1, 0, 1}, {1, 0, 0, 1}, {1, top, top, top}} {
		if x := made(t, m); x.Modulus() != m {
			t.Fatalf("modulus of %x: %x", m, x.Modulus())
		}
	}
}

func TestNewRefusesEvenNumbersAnd1(t *testing.T) {
	refused := []api.Num{
		{}, {1}, {2}, {4}, {top - 1}, {1 << 63}, {0, 1}, {0, 0, 1}, {0, 0, 0, 1},
		{0, 1, 1, 1}, {2, 1, 1, 1}, {0, top, top, top}, {top - 1, top, top, top},
	}
	for _, m := range refused {
		if x, e := mod.New(m); e != api.ErrArg || x != nil {
			t.Fatalf("New(%x): %v %v", m, x, e)
		}
	}
}

func TestChapterExamples(t *testing.T) {
	x := made(t, small(7))
	if n := x.Sub(small(2), small(5)); n != small(4) {
		t.Fatal("2 - 5:", n)
	}
	if n := x.Pow(small(3), small(6)); n != small(1) {
		t.Fatal("3 to the power of 6:", n)
	}
	if n := x.Inv(small(3)); n != small(5) {
		t.Fatal("what times 3 is 1:", n)
	}
}

func TestEverySumDifferenceAndProductOfSmallModuli(t *testing.T) {
	for m := uint64(3); m < 20; m += 2 {
		x := made(t, small(m))
		for a := range 3 * m {
			for b := range 3 * m {
				if n := x.Add(small(a), small(b)); n != small((a+b)%m) {
					t.Fatal(a, "+", b, "modulo", m, n)
				}
				if n := x.Sub(small(a), small(b)); n != small((a+3*m-b)%m) {
					t.Fatal(a, "-", b, "modulo", m, n)
				}
				if n := x.Mul(small(a), small(b)); n != small(a*b%m) {
					t.Fatal(a, "*", b, "modulo", m, n)
				}
			}
		}
	}
}

func TestSumsDifferencesAndProductsOfAnyNumbers(t *testing.T) {
	for _, m := range moduli(t) {
		x, by := made(t, m), wide(m)
		for _, a := range operands(m) {
			for _, b := range operands(m) {
				sum := new(big.Int).Add(wide(a), wide(b))
				if n := x.Add(a, b); n != narrow(sum.Mod(sum, by)) {
					t.Fatalf("%x + %x modulo %x: %x, not %x", a, b, m, n, sum)
				}
				rest := new(big.Int).Sub(wide(a), wide(b))
				if n := x.Sub(a, b); n != narrow(rest.Mod(rest, by)) {
					t.Fatalf("%x - %x modulo %x: %x, not %x", a, b, m, n, rest)
				}
				product := new(big.Int).Mul(wide(a), wide(b))
				if n := x.Mul(a, b); n != narrow(product.Mod(product, by)) {
					t.Fatalf("%x * %x modulo %x: %x, not %x", a, b, m, n, product)
				}
			}
		}
	}
}

func TestProductsOfManyDraws(t *testing.T) {
	l := draws(2000)
	for i := 0; i+2 < len(l); i++ {
		a, b, m := l[i], l[i+1], l[i+2]
		m[0] |= 1
		// Moduli of one to four words.
		for j := i%4 + 1; j < 4; j++ {
			m[j] = 0
		}
		product := new(big.Int).Mul(wide(a), wide(b))
		if n := made(t, m).Mul(a, b); n != narrow(product.Mod(product, wide(m))) {
			t.Fatalf("%x * %x modulo %x: %x, not %x", a, b, m, n, product)
		}
	}
}

func TestPowersOfAnyNumbers(t *testing.T) {
	exponents := append([]api.Num{
		{}, {1}, {2}, {3}, {6}, {top}, {0, 1}, {0, 0, 1}, {0, 0, 0, 1}, {0, 0, 0, 1 << 63}, {top, top, top, top},
	}, draws(1)...)
	for _, m := range moduli(t) {
		x := made(t, m)
		for i, a := range operands(m) {
			// Some of the exponents for each: all of them for all take long.
			for _, e := range []api.Num{{}, {2}, exponents[i%len(exponents)]} {
				want := new(big.Int).Exp(wide(a), wide(e), wide(m))
				if n := x.Pow(a, e); n != narrow(want) {
					t.Fatalf("%x to the power of %x modulo %x: %x, not %x", a, e, m, n, want)
				}
			}
		}
	}
}

func TestEveryPowerOfASmallModulus(t *testing.T) {
	for _, m := range []uint64{3, 7, 9, 11} {
		x := made(t, small(m))
		for a := range 2 * m {
			want := uint64(1)
			for e := range 2 * m {
				if n := x.Pow(small(a), small(e)); n != small(want) {
					t.Fatal(a, "to the power of", e, "modulo", m, n)
				}
				want = want * a % m
			}
		}
	}
}

func TestThePowerOf0Is1(t *testing.T) {
	for _, m := range moduli(t) {
		x := made(t, m)
		for _, a := range operands(m) {
			if n := x.Pow(a, api.Num{}); n != small(1) {
				t.Fatalf("%x to the power of 0 modulo %x: %x", a, m, n)
			}
		}
		if n := x.Pow(m, small(1)); n != (api.Num{}) {
			t.Fatalf("%x modulo itself: %x", m, n)
		}
	}
}

func TestInvByAPrime(t *testing.T) {
	primes := []api.Num{
		{3}, {5}, {7}, {65537}, {1<<63 - 25}, {top - 58}, {13, 1}, {top - 158, top}, {top - 236, top, top},
		{top - 188, top, top, top},
		parsed(t, prime25519), parsed(t, order25519), parsed(t, prime256), parsed(t, order256),
	}
	for _, p := range primes {
		x := made(t, p)
		for _, a := range operands(p) {
			want := small(1)
			if new(big.Int).Mod(wide(a), wide(p)).Sign() == 0 {
				want = api.Num{}
			}
			n := x.Inv(a)
			if !words.Less(n, p) || x.Mul(n, a) != want {
				t.Fatalf("what times %x is 1 modulo %x: %x", a, p, n)
			}
			if want == (api.Num{}) && n != want {
				t.Fatalf("Inv of the multiple %x of %x: %x", a, p, n)
			}
		}
	}
}

// Of a modulus that isn't a prime the power is asked for, whatever it is good for.
func TestInvIsAPowerByAnyModulus(t *testing.T) {
	x := made(t, small(25))
	for a, want := range []uint64{0, 1, 8, 2, 14, 0, 16, 18, 12, 4, 0} {
		if n := x.Inv(small(uint64(a))); n != small(want) {
			t.Fatal(a, "to the power of 23 modulo 25:", n)
		}
	}
	for _, m := range moduli(t) {
		x, e := made(t, m), new(big.Int).Sub(wide(m), big.NewInt(2))
		for _, a := range operands(m) {
			want := new(big.Int).Exp(wide(a), e, wide(m))
			if n := x.Inv(a); n != narrow(want) {
				t.Fatalf("Inv of %x modulo %x: %x, not %x", a, m, n, want)
			}
		}
	}
}

func TestReduceOfAnyLength(t *testing.T) {
	var b []byte
	for i := range 170 {
		b = append(b, byte(i*i*37+i+200))
	}
	for _, m := range moduli(t) {
		x := made(t, m)
		for l := range len(b) + 1 {
			want := new(big.Int).SetBytes(b[:l])
			if n := x.Reduce(b[:l]); n != narrow(want.Mod(want, wide(m))) {
				t.Fatalf("%d bytes modulo %x: %x, not %x", l, m, n, want)
			}
		}
	}
}

func TestReduceAtTheEdges(t *testing.T) {
	x := made(t, small(7))
	if n := x.Reduce(nil); n != (api.Num{}) {
		t.Fatal("nil:", n)
	}
	if n := x.Reduce([]byte{}); n != (api.Num{}) {
		t.Fatal("no bytes:", n)
	}
	if n := x.Reduce([]byte{1, 2}); n != small(258%7) {
		t.Fatal("258 modulo 7:", n)
	}
	for _, m := range moduli(t) {
		x, by := made(t, m), wide(m)
		for _, l := range []int{1, 31, 32, 33, 63, 64, 65, 96, 4096, 4099} {
			for _, b := range [][]byte{
				make([]byte, l),
				bytes.Repeat([]byte{255}, l),
				append([]byte{1}, make([]byte, l)...),
				append(make([]byte, l), 5),
			} {
				want := new(big.Int).SetBytes(b)
				if n := x.Reduce(b); n != narrow(want.Mod(want, by)) {
					t.Fatalf("%d bytes from %d on modulo %x: %x, not %x", len(b), b[0], m, n, want)
				}
			}
		}
		own := words.Bytes(m)
		if n := x.Reduce(own[:]); n != (api.Num{}) {
			t.Fatalf("the bytes of %x modulo itself: %x", m, n)
		}
	}
}

func TestReduceLeavesItsBytes(t *testing.T) {
	x := made(t, parsed(t, order256))
	for l := range 100 {
		room := bytes.Repeat([]byte{0xA5}, 140)
		x.Reduce(room[20 : 20+l])
		if !bytes.Equal(room, bytes.Repeat([]byte{0xA5}, 140)) {
			t.Fatal("changed by", l, "bytes:", room)
		}
	}
}

func TestNilAnswers0(t *testing.T) {
	var x *mod.Mod
	five, two := small(5), small(2)
	answers := []api.Num{
		x.Modulus(), x.Add(five, two), x.Sub(five, two), x.Mul(five, two), x.Pow(five, two),
		x.Pow(five, api.Num{}), x.Inv(five), x.Reduce([]byte{5}), x.Reduce(nil),
	}
	for i, n := range answers {
		if n != (api.Num{}) {
			t.Fatal("answer", i, "of nil:", n)
		}
	}
}

// What one asks of a modulus doesn't change it, nor another one made beside it,
// and many may ask at once.
func TestAskedAgainTheSameIsAnswered(t *testing.T) {
	seven, curve := made(t, small(7)), made(t, parsed(t, prime25519))
	var asked sync.WaitGroup
	for range 4 {
		asked.Go(func() {
			for _, d := range draws(50) {
				seven.Mul(d, d)
				curve.Pow(d, d)
				curve.Reduce(make([]byte, 40))
				if n := seven.Add(small(5), small(5)); n != small(3) {
					t.Error("5 + 5 modulo 7:", n)
				}
				if n := curve.Mul(small(5), small(5)); n != small(25) {
					t.Error("5 * 5 modulo the prime:", n)
				}
			}
		})
	}
	asked.Wait()
	if seven.Modulus() != small(7) || curve.Modulus() != parsed(t, prime25519) {
		t.Fatal("a modulus was changed:", seven.Modulus(), curve.Modulus())
	}
}

// What a Mod answers that New didn't make is not said, but each call ends.
func TestEveryCallEnds(t *testing.T) {
	top := api.Num{top, top, top, top}
	for _, x := range []*mod.Mod{nil, {}, made(t, small(3)), made(t, top)} {
		for _, a := range []api.Num{{}, {1}, top} {
			x.Add(a, top)
			x.Sub(a, top)
			x.Mul(a, top)
			x.Pow(a, top)
			x.Inv(a)
		}
		x.Modulus()
		x.Reduce(bytes.Repeat([]byte{255}, 1<<20+1))
	}
}
