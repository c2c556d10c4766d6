package weier_test

import (
	"bytes"
	"crypto/ecdh"
	"crypto/sha256"
	"encoding/hex"
	"math/big"
	"sync"
	"testing"

	"cartouche/api"
	"cartouche/weier"
)

// some: n bytes with no pattern to them, others for another seed.
func some(n int, seed uint64) []byte {
	b := make([]byte, n)
	state := seed*0x9E3779B97F4A7C15 + 611
	for i := range b {
		state = state*6364136223846793005 + 1442695040888963407
		b[i] = byte(state >> 56)
	}
	return b
}

func unhex(t *testing.T, s string) []byte {
	t.Helper()
	b, err := hex.DecodeString(s)
	if err != nil {
		t.Fatal(err)
	}
	return b
}

// turned: bytes with one bit turned.
func turned(b []byte, bit int) []byte {
	b = bytes.Clone(b)
	b[bit/8] ^= 1 << (bit % 8)
	return b
}

// joined: new bytes, one behind the other.
func joined(parts ...[]byte) []byte { return bytes.Join(parts, nil) }

func public(t *testing.T, k []byte) []byte {
	t.Helper()
	b, e := weier.Public(k)
	if e != api.OK || len(b) != 65 {
		t.Fatalf("Public(%X): %X, %d", k, b, e)
	}
	return b
}

func shared(t *testing.T, k, peer []byte) []byte {
	t.Helper()
	b, e := weier.Shared(k, peer)
	if e != api.OK || len(b) != 32 {
		t.Fatalf("Shared(%X, %X): %X, %d", k, peer, b, e)
	}
	return b
}

// secrets: at both ends, one for each bit, and draws.
func secrets() [][]byte {
	var l [][]byte
	for d := range int64(5) {
		l = append(l, long(big.NewInt(d+1)), long(plus(order(), -d-1)))
	}
	for i := uint(4); i < 256; i++ {
		l = append(l, long(power(i)))
	}
	for i := range uint64(40) {
		l = append(l, some(32, i))
	}
	return l
}

func TestOrder(t *testing.T) {
	x := weier.Order()
	if n := x.Modulus(); n != num(order()) {
		t.Fatalf("the order is %X", n)
	}
	last := num(plus(order(), -1))
	if a := x.Mul(last, last); a != (api.Num{1}) {
		t.Errorf("-1 times -1 is %X", a)
	}
	if a := x.Add(last, api.Num{2}); a != (api.Num{1}) {
		t.Errorf("-1 and 2 are %X", a)
	}
	if a := x.Mul(x.Inv(api.Num{3}), api.Num{3}); a != (api.Num{1}) {
		t.Errorf("3 divided by 3 is %X", a)
	}
	if a := x.Reduce(long(order())); a != (api.Num{}) {
		t.Errorf("the order is %X", a)
	}
}

func TestBase(t *testing.T) {
	if a := weier.Base(); a != outside(base()) || !weier.On(a) {
		t.Errorf("the base is %v", a)
	}
}

// known: n times the base by itself, as others publish it (the chapter's
// example; NIST).
func known() []struct{ n, x, y string } {
	return []struct{ n, x, y string }{
		{"1", "6B17D1F2E12C4247F8BCE6E563A440F277037D812DEB33A0F4A13945D898C296", "4FE342E2FE1A7F9B8EE7EB4A7C0F9E162BCE33576B315ECECBB6406837BF51F5"},
		{"2", "7CF27B188D034F7E8A52380304B51AC3C08969E277F21B35A60B48FC47669978", "07775510DB8ED040293D9AC69F7430DBBA7DADE63CE982299E04B79D227873D1"},
		{"3", "5ECBE4D1A6330A44C8F7EF951D4BF165E6C6B721EFADA985FB41661BC6E7FD6C", "8734640C4998FF7E374B06CE1A64A2ECD82AB036384FB83D9A79B127A27D5032"},
		{"4", "E2534A3532D08FBBA02DDE659EE62BD0031FE2DB785596EF509302446B030852", "E0F1575A4C633CC719DFEE5FDA862D764EFC96C3F30EE0055C42C23F184ED8C6"},
		{"5", "51590B7A515140D2D784C85608668FDFEF8C82FD1F5BE52421554A0DC3D033ED", "E0C17DA8904A727D8AE1BF36BF8A79260D012F00D4D80888D1D0BB44FDA16DA4"},
		{"18EBBB95EED0E13", "339150844EC15234807FE862A86BE77977DBFB3AE3D96F4C22795513AEAAB82F", "B1C14DDFDC8EC1B2583F51E85A5EB3A155840F2034730E9B5ADA38B674336A21"},
		{"159D893D4CDD747246CDCA43590E13", "1B7E046A076CC25E6D7FA5003F6729F665CC3241B5ADAB12B498CD32F2803264", "BFEA79BE2B666B073DB69A2A241ADAB0738FE9D2DD28B5604EB8C8CF097C457B"},
		{"FFFFFFFF00000000FFFFFFFFFFFFFFFFBCE6FAADA7179E84F3B9CAC2FC632550", "6B17D1F2E12C4247F8BCE6E563A440F277037D812DEB33A0F4A13945D898C296", "B01CBD1C01E58065711814B583F061E9D431CCA994CEA1313449BF97C840AE0A"},
		{"FFFFFFFF00000000FFFFFFFFFFFFFFFFBCE6FAADA7179E84F3B9CAC2FC63254F", "7CF27B188D034F7E8A52380304B51AC3C08969E277F21B35A60B48FC47669978", "F888AAEE24712FC0D6C26539608BCF244582521AC3167DD661FB4862DD878C2E"},
	}
}

func TestKnownProducts(t *testing.T) {
	for _, c := range known() {
		a := weier.Mult(num(written16(c.n)), weier.Base())
		if want := outside(point{written16(c.x), written16(c.y)}); a != want {
			t.Errorf("%s times the base: %v, not %v", c.n, a, want)
		}
		b := joined([]byte{4}, unhex(t, c.x), unhex(t, c.y))
		if got := public(t, long(written16(c.n))); !bytes.Equal(got, b) {
			t.Errorf("the key of %s: %X, not %X", c.n, got, b)
		}
		if back, e := weier.Decode(b); e != api.OK || back != a {
			t.Errorf("%X: %v, %d, not %v", b, back, e, a)
		}
	}
}

// RFC 5903, 8.1; NIST's tests of sharing (CAVS, P-256, the first one).
func TestKnownSharing(t *testing.T) {
	for _, c := range []struct{ k, public, peer, want string }{
		{
			"c88f01f510d9ac3f70a292daa2316de544e9aab8afe84049c62a9c57862d1433",
			"04dad0b65394221cf9b051e1feca5787d098dfe637fc90b9ef945d0c37725811805271a0461cdb8252d61f1c456fa3e59ab1f45b33accf5f58389e0577b8990bb3",
			"04d12dfb5289c8d4f81208b70270398c342296970a0bccb74c736fc7554494bf6356fbf3ca366cc23e8157854c13c58d6aac23f046ada30f8353e74f33039872ab",
			"d6840f6b42f6edafd13116e0e12565202fef8e9ece7dce03812464d04b9442de",
		},
		{
			"c6ef9c5d78ae012a011164acb397ce2088685d8f06bf9be0b283ab46476bee53",
			"04d12dfb5289c8d4f81208b70270398c342296970a0bccb74c736fc7554494bf6356fbf3ca366cc23e8157854c13c58d6aac23f046ada30f8353e74f33039872ab",
			"04dad0b65394221cf9b051e1feca5787d098dfe637fc90b9ef945d0c37725811805271a0461cdb8252d61f1c456fa3e59ab1f45b33accf5f58389e0577b8990bb3",
			"d6840f6b42f6edafd13116e0e12565202fef8e9ece7dce03812464d04b9442de",
		},
		{
			"7d7dc5f71eb29ddaf80d6214632eeae03d9058af1fb6d22ed80badb62bc1a534",
			"04ead218590119e8876b29146ff89ca61770c4edbbf97d38ce385ed281d8a6b23028af61281fd35e2fa7002523acc85a429cb06ee6648325389f59edfce1405141",
			"04700c48f77f56584c5cc632ca65640db91b6bacce3a4df6b42ce7cc838833d287db71e509e3fd9b060ddb20ba5c51dcc5948d46fbf640dfe0441782cab85fa4ac",
			"46fc62106420ff012e54a434fbdd2d25ccc5852060561e68040dd7778997bd7b",
		},
	} {
		k := unhex(t, c.k)
		if got := hex.EncodeToString(public(t, k)); got != c.public {
			t.Errorf("%s: key %s, not %s", c.k, got, c.public)
		}
		if got := hex.EncodeToString(shared(t, k, unhex(t, c.peer))); got != c.want {
			t.Errorf("%s, %s: %s, not %s", c.k, c.peer, got, c.want)
		}
	}
}

// Many secrets, each one's bytes drawn, as OpenSSL 3.0 shares them: the hash of
// all public keys and of all that is shared, one behind the other.
func TestSharedAsByOpenssl(t *testing.T) {
	const want = "14ad299b0464628eb0bd076c638e09969f99b8b9819d7581775b8531049b1ccd"
	sum := sha256.New()
	for i := range uint64(200) {
		k, peer := some(32, 2*i), public(t, some(32, 2*i+1))
		sum.Write(public(t, k))
		sum.Write(peer)
		sum.Write(shared(t, k, peer))
	}
	if got := hex.EncodeToString(sum.Sum(nil)); got != want {
		t.Errorf("%s, not %s", got, want)
	}
}

// checkAsLibrary: key and what is shared are those of Go's library.
func checkAsLibrary(t *testing.T, k, peer []byte) {
	t.Helper()
	secret, err := ecdh.P256().NewPrivateKey(k)
	if err != nil {
		t.Fatal(err)
	}
	other, err := ecdh.P256().NewPublicKey(peer)
	if err != nil {
		t.Fatal(err)
	}
	want, err := secret.ECDH(other)
	if err != nil {
		t.Fatal(err)
	}
	if b := public(t, k); !bytes.Equal(b, secret.PublicKey().Bytes()) {
		t.Fatalf("%X: key %X, not %X", k, b, secret.PublicKey().Bytes())
	}
	if b := shared(t, k, peer); !bytes.Equal(b, want) {
		t.Fatalf("%X, %X: shared %X, not %X", k, peer, b, want)
	}
}

func TestSharedAsByLibrary(t *testing.T) {
	peers := samples()[2:]
	for i, k := range secrets() {
		peer := peers[i%len(peers)]
		checkAsLibrary(t, k, bytesOf(peer.x, peer.y))
	}
}

// Of each two points: others, a point and itself, a point and its mirror, the
// one at infinity and any, in either order.
func TestAdd(t *testing.T) {
	all := samples()
	for i, a := range all {
		for j, b := range all {
			want := outside(sum(a, b))
			if got := weier.Add(outside(a), outside(b)); got != want {
				t.Errorf("points %d and %d: %v, not %v", i, j, got, want)
			}
		}
	}
}

func TestAddAtTheEdges(t *testing.T) {
	none, a := weier.Point{None: true}, weier.Base()
	less := outside(mirror(base()))
	twice := weier.Mult(api.Num{2}, a)
	for _, c := range []struct {
		why       string
		a, b, sum weier.Point
	}{
		{"nothing and nothing", none, none, none},
		{"nothing and a point", none, a, a},
		{"a point and nothing", a, none, a},
		{"a point and itself", a, a, twice},
		{"a point and its mirror", a, less, none},
		{"a mirror and its point", less, a, none},
		{"twice a point and its mirror", twice, less, a},
		{"twice a point and nothing", twice, none, twice},
	} {
		if got := weier.Add(c.a, c.b); got != c.sum {
			t.Errorf("%s: %v, not %v", c.why, got, c.sum)
		}
	}
}

// Sums of sums don't hang on their order; products of numbers that follow each
// other differ by the point.
func TestSumsGoOn(t *testing.T) {
	all := samples()
	for i, a := range all {
		b, c := outside(all[(i*7+3)%len(all)]), outside(all[(i*5+1)%len(all)])
		a := outside(a)
		if one, other := weier.Add(weier.Add(a, b), c), weier.Add(a, weier.Add(b, c)); one != other {
			t.Errorf("point %d: %v and %v", i, one, other)
		}
	}
	for _, a := range []weier.Point{weier.Base(), outside(narrow()[0])} {
		so := weier.Point{None: true}
		for n := range uint64(40) {
			if got := weier.Mult(api.Num{n}, a); got != so || !weier.On(got) {
				t.Fatalf("%d times: %v, not %v", n, got, so)
			}
			so = weier.Add(so, a)
		}
	}
}

// numbers: at both ends, about the order and the prime, about powers of 2, and
// draws.
func numbers() []*big.Int {
	var l []*big.Int
	for d := range int64(4) {
		l = append(l, big.NewInt(d), plus(order(), d), plus(order(), -d), plus(power(256), -d-1), plus(prime(), d))
	}
	for i := range uint(256) {
		if i%5 == 0 {
			l = append(l, power(i), plus(power(i+1), -1))
		}
	}
	for i := range uint64(30) {
		l = append(l, wide(some(32, i)))
	}
	return l
}

func TestMult(t *testing.T) {
	all := samples()[1:]
	for i, n := range numbers() {
		for _, a := range []point{base(), all[i%len(all)]} {
			want := outside(times(n, a))
			if got := weier.Mult(num(n), outside(a)); got != want {
				t.Errorf("%X times %v: %v, not %v", n, a, got, want)
			}
		}
	}
}

func TestMultAtTheEdges(t *testing.T) {
	none := weier.Point{None: true}
	for i, p := range samples() {
		a, less := outside(p), outside(mirror(p))
		for _, c := range []struct {
			n    *big.Int
			want weier.Point
		}{
			{new(big.Int), none},
			{big.NewInt(1), a},
			{plus(order(), -1), less},
			{order(), none},
			{plus(order(), 1), a},
		} {
			if got := weier.Mult(num(c.n), a); got != c.want {
				t.Errorf("%X times point %d: %v, not %v", c.n, i, got, c.want)
			}
		}
	}
	for _, n := range []api.Num{{}, {1}, {2}, num(order()), {1, 2, 3, 4}, {1<<64 - 1, 1<<64 - 1, 1<<64 - 1, 1<<64 - 1}} {
		if got := weier.Mult(n, none); got != none {
			t.Errorf("%X times nothing: %v", n, got)
		}
	}
}

// Every bit of a number counts.
func TestEachBitOfANumber(t *testing.T) {
	n := num(wide(some(32, 5)))
	seen := map[weier.Point]bool{weier.Mult(n, weier.Base()): true}
	for i := range 256 {
		other := n
		other[i/64] ^= 1 << (i % 64)
		seen[weier.Mult(other, weier.Base())] = true
	}
	if len(seen) != 257 {
		t.Errorf("257 numbers make %d points", len(seen))
	}
}

// A pair of numbers, not always a point's.
type pair struct {
	why  string
	x, y *big.Int
}

// almost: a y whose square is that of the base but for one of 64 bits.
func almost(from uint) *big.Int {
	for i := range uint(64) {
		right := new(big.Int).Xor(side(base().x), power(from+i))
		if y := new(big.Int).ModSqrt(right, prime()); y != nil && right.Cmp(prime()) < 0 {
			return y
		}
	}
	panic("no such y")
}

// others: pairs that aren't a point's, but which some equation or some reading
// could take for one.
func others() []pair {
	l := []pair{
		{"zeros", new(big.Int), new(big.Int)},
		{"ones", plus(power(256), -1), plus(power(256), -1)},
		{"the prime twice", prime(), prime()},
		{"no y fits", big.NewInt(1), big.NewInt(1)},
		{"the base, the other way round", base().y, base().x},
		{"of a curve without b", plus(prime(), -1), new(big.Int).ModSqrt(big.NewInt(2), prime())},
	}
	for _, a := range narrow() {
		l = append(l,
			pair{"x and the prime", new(big.Int).Add(a.x, prime()), a.y},
			pair{"x and the prime, mirrored", new(big.Int).Add(a.x, prime()), mirror(a).y})
	}
	for _, a := range flat() {
		l = append(l,
			pair{"y and the prime", a.x, new(big.Int).Add(a.y, prime())},
			pair{"y and 1", a.x, plus(a.y, 1)})
	}
	for _, a := range samples()[2:] {
		l = append(l,
			pair{"1 more, x", plus(a.x, 1), a.y},
			pair{"1 more, y", a.x, plus(a.y, 1)},
			pair{"the other one's y", a.x, times(big.NewInt(2), a).y},
			pair{"no y at all", a.x, new(big.Int)},
			pair{"no x at all", new(big.Int), a.y})
	}
	for i := range uint(4) {
		l = append(l, pair{"y^2 is right but for one word", base().x, almost(64 * i)})
	}
	var wrong []pair
	for _, c := range l {
		if !onCurve(c.x, c.y) {
			wrong = append(wrong, c)
		}
	}
	return wrong
}

func TestOthersAreThere(t *testing.T) {
	seen := map[string]int{}
	for _, c := range others() {
		seen[c.why]++
	}
	if seen["x and the prime"] != 5 || seen["y and the prime"] != 4 || seen["y^2 is right but for one word"] != 4 || len(seen) < 12 {
		t.Error(seen)
	}
}

func TestOn(t *testing.T) {
	for i, a := range samples() {
		if !weier.On(outside(a)) {
			t.Errorf("point %d isn't on the curve", i)
		}
	}
	for _, c := range others() {
		a := weier.Point{X: num(c.x), Y: num(c.y)}
		if weier.On(a) {
			t.Errorf("%s: %v is on the curve", c.why, a)
		}
	}
	if weier.On(weier.Point{}) {
		t.Error("a zero Point is on the curve")
	}
}

// The one at infinity has zeros.
func TestOnAtInfinity(t *testing.T) {
	if !weier.On(weier.Point{None: true}) {
		t.Error("not on the curve")
	}
	for _, a := range []weier.Point{
		{None: true, X: api.Num{1}},
		{None: true, Y: api.Num{1}},
		{None: true, X: api.Num{0, 1}},
		{None: true, Y: api.Num{0, 0, 1}},
		{None: true, X: api.Num{0, 0, 0, 1 << 63}},
		{None: true, Y: api.Num{0, 0, 0, 1 << 63}},
		{None: true, X: num(prime())},
		{None: true, X: num(prime()), Y: num(prime())},
		{None: true, X: weier.Base().X, Y: weier.Base().Y},
	} {
		if weier.On(a) {
			t.Errorf("%v is on the curve", a)
		}
	}
}

// Of a point each bit counts.
func TestEachBitOfAPoint(t *testing.T) {
	for _, p := range samples()[2:8] {
		b := bytesOf(p.x, p.y)
		for i := range 8 * len(b) {
			c := turned(b, i)
			want := api.ErrPoint
			if i < 8 {
				want = api.ErrForm
			}
			if a, e := weier.Decode(c); e != want || a != (weier.Point{}) {
				t.Errorf("%X: %v, %d, not %d", c, a, e, want)
			}
		}
	}
}

func TestEncodeAndDecode(t *testing.T) {
	for i, a := range samples()[2:] {
		want := bytesOf(a.x, a.y)
		b := weier.Encode(outside(a))
		if !bytes.Equal(b, want) {
			t.Errorf("point %d: %X, not %X", i, b, want)
		}
		if back, e := weier.Decode(want); e != api.OK || back != outside(a) {
			t.Errorf("%X: %v, %d, not %v", want, back, e, outside(a))
		}
	}
}

func TestEncodeNothing(t *testing.T) {
	for _, a := range []weier.Point{
		{None: true},
		weier.Mult(api.Num{}, weier.Base()),
		weier.Mult(num(order()), weier.Base()),
		weier.Add(weier.Base(), outside(mirror(base()))),
	} {
		if b := weier.Encode(a); len(b) != 0 {
			t.Errorf("%v has the bytes %X", a, b)
		}
	}
}

// checkDecode: Decode refuses bytes, and so do Shared with any secret; nothing
// else is answered.
func checkDecode(t *testing.T, why string, b []byte, want api.Errno) {
	t.Helper()
	if a, e := weier.Decode(b); e != want || a != (weier.Point{}) {
		t.Errorf("%s, %X: %v, %d, not %d", why, b, a, e, want)
	}
	if s, e := weier.Shared(some(32, 1), b); e != want || s != nil {
		t.Errorf("%s, %X: shared %X, %d, not %d", why, b, s, e, want)
	}
}

func TestDecodeNoPoints(t *testing.T) {
	for _, c := range others() {
		if c.x.BitLen() <= 256 && c.y.BitLen() <= 256 {
			checkDecode(t, c.why, bytesOf(c.x, c.y), api.ErrPoint)
		}
	}
	checkDecode(t, "zeros", append([]byte{4}, make([]byte, 64)...), api.ErrPoint)
	checkDecode(t, "ones", append([]byte{4}, bytes.Repeat([]byte{0xFF}, 64)...), api.ErrPoint)
	for i := range uint64(100) {
		checkDecode(t, "drawn", append([]byte{4}, some(64, i)...), api.ErrPoint)
	}
}

// Lengths and marks are told ahead of the point; room behind doesn't count.
func TestDecodeOtherForms(t *testing.T) {
	b := bytesOf(base().x, base().y)
	for i := range 256 {
		c := joined([]byte{byte(i)}, b[1:])
		if i != 4 {
			checkDecode(t, "another mark", c, api.ErrForm)
			checkDecode(t, "another mark, no point", joined(c[:1], make([]byte, 64)), api.ErrForm)
			checkDecode(t, "another mark, no y", c[:33], api.ErrForm)
			checkDecode(t, "another mark alone", c[:1], api.ErrForm)
		}
	}
	for n := range 200 {
		if n == 65 {
			continue
		}
		c := make([]byte, n, n+100)
		copy(c, b)
		checkDecode(t, "another length", c, api.ErrForm)
	}
	for _, c := range []struct {
		why string
		b   []byte
	}{
		{"nil", nil},
		{"none, with a point behind", b[:0]},
		{"one less", b[:64]},
		{"the mark left out", b[1:]},
		{"one more", joined(b, []byte{0})},
		{"one more ahead", joined([]byte{0}, b)},
		{"the mark twice", joined([]byte{4}, b)},
		{"twice", joined(b, b)},
		{"256 bytes more", make([]byte, 256+65)},
		{"65536 bytes more", joined(b, make([]byte, 1<<16))},
		{"many", make([]byte, 1<<20)},
	} {
		checkDecode(t, c.why, c.b, api.ErrForm)
	}
}

func TestSecret(t *testing.T) {
	for _, k := range secrets() {
		if n, e := weier.Secret(k); e != api.OK || n != num(wide(k)) {
			t.Errorf("%X: %X, %d", k, n, e)
		}
	}
	n, e := weier.Secret(unhex(t, "0102030405060708090a0b0c0d0e0f101112131415161718191a1b1c1d1e1f20"))
	if want := (api.Num{0x191a1b1c1d1e1f20, 0x1112131415161718, 0x090a0b0c0d0e0f10, 0x0102030405060708}); e != api.OK || n != want {
		t.Errorf("%X, %d, not %X", n, e, want)
	}
}

// checkNoSecret: each call refuses bytes as a secret, whatever the peer's are.
func checkNoSecret(t *testing.T, k []byte, want api.Errno) {
	t.Helper()
	if n, e := weier.Secret(k); e != want || n != (api.Num{}) {
		t.Errorf("%X: number %X, %d, not %d", k, n, e, want)
	}
	if b, e := weier.Public(k); e != want || b != nil {
		t.Errorf("%X: key %X, %d, not %d", k, b, e, want)
	}
	good := bytesOf(base().x, base().y)
	for _, peer := range [][]byte{good, nil, good[:64], turned(good, 0), turned(good, 100), make([]byte, 65), k} {
		if b, e := weier.Shared(k, peer); e != want || b != nil {
			t.Errorf("%X, %X: shared %X, %d, not %d", k, peer, b, e, want)
		}
	}
}

func TestSecretsOutOfRange(t *testing.T) {
	checkNoSecret(t, make([]byte, 32), api.ErrArg)
	checkNoSecret(t, bytes.Repeat([]byte{0xFF}, 32), api.ErrArg)
	for d := range int64(20) {
		checkNoSecret(t, long(plus(order(), d)), api.ErrArg)
		checkNoSecret(t, long(plus(prime(), d-10)), api.ErrArg)
	}
	for i := range uint(256) {
		if n := new(big.Int).Add(order(), power(i)); n.BitLen() <= 256 {
			checkNoSecret(t, long(n), api.ErrArg)
		}
	}
}

func TestLengthsOfSecrets(t *testing.T) {
	for n := range 100 {
		if n != 32 {
			checkNoSecret(t, some(n, 3), api.ErrLen)
			checkNoSecret(t, make([]byte, n, n+64), api.ErrLen)
		}
	}
	k := some(32, 1)
	for _, k := range [][]byte{nil, k[:0], k[:31], joined(k, []byte{0}), joined([]byte{0}, k), make([]byte, 256+32), make([]byte, 1<<20)} {
		checkNoSecret(t, k, api.ErrLen)
	}
}

// Secrets of 1 and of the order less 1 give a point and its mirror, whose x is
// the same.
func TestPublicAtTheEnds(t *testing.T) {
	one, last := long(big.NewInt(1)), long(plus(order(), -1))
	b, less := base(), mirror(base())
	if got := public(t, one); !bytes.Equal(got, bytesOf(b.x, b.y)) {
		t.Errorf("of 1: %X", got)
	}
	if got := public(t, last); !bytes.Equal(got, bytesOf(less.x, less.y)) {
		t.Errorf("of the order less 1: %X", got)
	}
	for i, a := range samples()[2:] {
		peer := bytesOf(a.x, a.y)
		for _, k := range [][]byte{one, last} {
			if got := shared(t, k, peer); !bytes.Equal(got, long(a.x)) {
				t.Errorf("%X, point %d: %X", k, i, got)
			}
		}
	}
}

// What is shared has 32 bytes, however small its number.
func TestSharedSmall(t *testing.T) {
	for _, a := range narrow() {
		k := some(32, 8)
		inverse := new(big.Int).ModInverse(wide(k), order())
		peer := times(inverse, a)
		if got := shared(t, k, bytesOf(peer.x, peer.y)); !bytes.Equal(got, long(a.x)) {
			t.Errorf("x of %d: %X", a.x, got)
		}
	}
}

// P11.2: both share the same.
func TestBothShareTheSame(t *testing.T) {
	all := secrets()
	for i, k := range all {
		other := all[(i*7+1)%len(all)]
		one, two := shared(t, k, public(t, other)), shared(t, other, public(t, k))
		if !bytes.Equal(one, two) {
			t.Fatalf("%X and %X: %X and %X", k, other, one, two)
		}
		if i < 10 && bytes.Equal(one, shared(t, k, public(t, some(32, 99)))) {
			t.Fatalf("%X: %X with two peers", k, one)
		}
	}
	for _, k := range [][]byte{long(big.NewInt(1)), long(plus(order(), -1)), some(32, 1)} {
		if got, want := shared(t, k, public(t, k)), times(new(big.Int).Mul(wide(k), wide(k)), base()); !bytes.Equal(got, long(want.x)) {
			t.Errorf("%X with itself: %X, not %X", k, got, want.x)
		}
	}
}

// P0: whatever is handed in, each call ends, and answers the same again.
func TestAnythingGoes(t *testing.T) {
	all := []weier.Point{{}, {None: true}, {None: true, X: api.Num{1}}, {None: true, Y: num(prime())}, {X: num(prime()), Y: num(prime())}}
	for _, c := range others()[:20] {
		all = append(all, weier.Point{X: num(c.x), Y: num(c.y)})
	}
	for i := range uint64(5) {
		all = append(all, weier.Point{X: num(wide(some(32, i))), Y: num(wide(some(32, i+50)))})
	}
	for i, a := range all {
		b := all[(i*3+1)%len(all)]
		n := num(wide(some(32, uint64(i))))
		if weier.Add(a, b) != weier.Add(a, b) || weier.Mult(n, a) != weier.Mult(n, a) || !bytes.Equal(weier.Encode(a), weier.Encode(a)) {
			t.Errorf("%v and %v: not the same again", a, b)
		}
		weier.Mult(api.Num{}, a)
		weier.Mult(num(order()), a)
		weier.Add(a, weier.Base())
		weier.Add(weier.Point{None: true}, a)
		weier.On(a)
	}
}

// roomy: bytes with room behind them, and a check that neither has changed.
func roomy(t *testing.T, b []byte) ([]byte, func()) {
	whole := joined(b, some(64, 7))
	return whole[:len(b)], func() {
		t.Helper()
		if !bytes.Equal(whole, joined(b, some(64, 7))) {
			t.Errorf("%d bytes handed in, or the room behind them, have changed", len(b))
		}
	}
}

func TestArgumentsStay(t *testing.T) {
	good := bytesOf(base().x, base().y)
	for _, one := range [][]byte{nil, some(31, 1), some(32, 1), make([]byte, 32), some(33, 1)} {
		for _, two := range [][]byte{nil, good, turned(good, 0), turned(good, 99), good[:64], joined(good, good)} {
			k, checkK := roomy(t, one)
			peer, checkPeer := roomy(t, two)
			weier.Secret(k)
			weier.Public(k)
			weier.Shared(k, peer)
			weier.Decode(peer)
			checkK()
			checkPeer()
		}
	}
}

// Answers are new memory, and keep nothing of what was handed in.
func TestNothingShared(t *testing.T) {
	k, peer := some(32, 1), bytesOf(base().x, base().y)
	key, common, point := public(t, k), shared(t, k, peer), weier.Encode(weier.Base())
	for _, call := range []func() []byte{
		func() []byte { return public(t, k) },
		func() []byte { return shared(t, k, peer) },
		func() []byte { return weier.Encode(weier.Base()) },
	} {
		want := bytes.Clone(call())
		b := call()
		clear(b[:cap(b)])
		if again := call(); !bytes.Equal(again, want) {
			t.Errorf("%X, then %X", want, again)
		}
	}
	clear(k)
	a, _ := weier.Decode(peer)
	clear(peer)
	if a != weier.Base() {
		t.Errorf("a point changed with its bytes: %v", a)
	}
	if k = some(32, 1); !bytes.Equal(key, public(t, k)) || !bytes.Equal(common, shared(t, k, point)) {
		t.Error("an answer changed with what was handed in")
	}
}

// The same bytes may stand for both arguments, or overlap.
func TestSharedArguments(t *testing.T) {
	b := public(t, some(32, 1))
	for _, k := range [][]byte{b[1:33], b[33:], b[20:52], b[:32]} {
		checkAsLibrary(t, k, b)
	}
	checkNoSecret(t, b, api.ErrLen)
}

// What was answered before changes nothing, errors neither.
func TestSameAgain(t *testing.T) {
	k, peer := some(32, 1), public(t, some(32, 2))
	want := shared(t, k, peer)
	for i := range uint64(10) {
		weier.Shared(k, peer[1:])
		weier.Shared(nil, peer)
		weier.Secret(make([]byte, 32))
		weier.Decode(turned(peer, int(i)+8))
		weier.Add(weier.Point{None: true}, weier.Base())
		weier.Order().Reduce(some(40, i))
		public(t, some(32, i))
		shared(t, some(32, i), peer)
		if b := shared(t, k, peer); !bytes.Equal(b, want) {
			t.Fatalf("%X, not %X", b, want)
		}
	}
}

func TestAskedAtOnce(t *testing.T) {
	peer := public(t, some(32, 2))
	var all sync.WaitGroup
	for i := range uint64(8) {
		k := some(32, i)
		want, key := shared(t, k, peer), public(t, k)
		all.Go(func() {
			for range 5 {
				if b, e := weier.Shared(k, peer); e != api.OK || !bytes.Equal(b, want) {
					t.Error("shared otherwise")
				}
				if b, e := weier.Public(k); e != api.OK || !bytes.Equal(b, key) {
					t.Error("another public key")
				}
				if a := weier.Base(); a != outside(base()) || weier.Order().Modulus() != num(order()) {
					t.Error("another base or order")
				}
			}
		})
	}
	all.Wait()
}
