package cert_test

import (
	"bytes"
	"fmt"
	"math"
	"reflect"
	"slices"
	"strings"
	"testing"

	"cartouche/api"
	"cartouche/cert"
)

// The last second of the year 9999.
const lastSecond = 253402300799

// secret: one of both schemes.
func secret(n byte) []byte { return bytes.Repeat([]byte{n}, 32) }

// plain: a template that may be, and says as little as it may.
func plain(t *testing.T) api.Template {
	return api.Template{Issuer: "root", Subject: "leaf", Scheme: api.Ed25519, Key: libraryKey(t, api.Ed25519, secret(3)), Path: -1, Usage: -1}
}

// full: a template that says all.
func full(t *testing.T) api.Template {
	x := plain(t)
	x.Serial, x.From, x.To = 1<<63, 946684800, lastSecond
	x.Ca, x.Path, x.Usage, x.Server, x.Client, x.Extra = true, 127, api.UseSign|api.UseCert, true, true, true
	x.Names = []string{"a.b", "*.c.d"}
	return x
}

// templates: many that may be.
func templates(t *testing.T) []api.Template {
	var list []api.Template
	add := func(change func(x *api.Template)) {
		for _, x := range []api.Template{plain(t), full(t)} {
			change(&x)
			list = append(list, x)
		}
	}
	add(func(x *api.Template) {})
	for _, n := range []uint64{0, 1, 127, 128, 255, 256, 300, 65535, 65536, 1<<31 - 1, 1 << 32, 1<<63 - 1, 1 << 63, math.MaxUint64} {
		add(func(x *api.Template) { x.Serial = n })
	}
	for _, n := range []uint64{0, 1, 951782400, 2524607999, 2524608000, 4102444800, lastSecond} {
		add(func(x *api.Template) { x.From = n })
		add(func(x *api.Template) { x.To = n })
	}
	for _, text := range []string{"a", "Z", "0", ".", "-", "*", "*.*", strings.Repeat("x", 64), "abcdefghijklmnopqrstuvwxyz.-*ABCDEFGHIJKLMNOPQRSTUVWXYZ0123456"} {
		add(func(x *api.Template) { x.Issuer = text })
		add(func(x *api.Template) { x.Subject = text })
		add(func(x *api.Template) { x.Names = []string{text} })
	}
	for n := range 9 {
		add(func(x *api.Template) { x.Names = slices.Repeat([]string{"a"}, n) })
	}
	for _, n := range []int{-1, 0, 1, 2, 126, 127} {
		add(func(x *api.Template) { x.Ca, x.Path = true, n })
	}
	for _, n := range []int{1, 2, 3, 4, 6, 8, 16, 32, 64, 96, 127, 128, 132, 129, 254, 255, -1} {
		add(func(x *api.Template) { x.Usage = n })
	}
	for n := range 8 {
		add(func(x *api.Template) { x.Server, x.Client, x.Extra = n&1 != 0, n&2 != 0, n&4 != 0 })
	}
	for _, scheme := range []int{api.Ed25519, api.Ecdsa} {
		for n := range byte(4) {
			add(func(x *api.Template) { x.Scheme, x.Key = scheme, libraryKey(t, scheme, secret(n+1)) })
		}
	}
	return list
}

func mustMake(t *testing.T, x api.Template, scheme int, secret []byte) string {
	t.Helper()
	s, e := cert.Make(x, scheme, secret)
	if e != api.OK {
		t.Fatalf("Make(%#v): %d", x, e)
	}
	return s
}

func mustParse(t *testing.T, raw string) cert.Cert {
	t.Helper()
	c, e := cert.Parse(raw)
	if e != api.OK {
		t.Fatalf("Parse(%X): %d", raw, e)
	}
	return c
}

// same: an empty list may be nil or not.
func same(a, b api.Template) bool {
	if len(a.Names) == 0 && len(b.Names) == 0 {
		a.Names, b.Names = nil, nil
	}
	return reflect.DeepEqual(a, b)
}

func checkMakeError(t *testing.T, x api.Template, scheme int, secret []byte, want api.Errno) {
	t.Helper()
	if s, e := cert.Make(x, scheme, secret); s != "" || e != want {
		t.Errorf("Make(%#v, %d, %X): %X, %d, not %d", x, scheme, secret, s, e, want)
	}
}

func TestText(t *testing.T) {
	const signs = "ABCDEFGHIJKLMNOPQRSTUVWXYZabcdefghijklmnopqrstuvwxyz0123456789.-*"
	for c := range 256 {
		s := string([]byte{byte(c)})
		want := strings.Contains(signs, s)
		for _, text := range []string{s, "a" + s, s + "a", "a" + s + ".", strings.Repeat("a", 63) + s} {
			if cert.Text(text) != want {
				t.Errorf("Text(%q): %t", text, !want)
			}
		}
	}
	for n := range 200 {
		if s := strings.Repeat("*", n); cert.Text(s) != (n >= 1 && n <= 64) {
			t.Errorf("%d signs", n)
		}
	}
	for _, s := range []string{"\u00E4", "a\u00E4b", "\u212A", "a b", "a_b", "a\n", "\na", "a/b", "a@b", "a:b", "a,b", "a+b"} {
		if cert.Text(s) {
			t.Errorf("Text(%q)", s)
		}
	}
}

func TestMay(t *testing.T) {
	for _, x := range templates(t) {
		if !cert.May(x) {
			t.Errorf("May(%#v): false", x)
		}
	}
	noCa := func(path int) func(*api.Template) {
		return func(x *api.Template) { x.Ca, x.Path = false, path }
	}
	withCa := func(path int) func(*api.Template) {
		return func(x *api.Template) { x.Ca, x.Path = true, path }
	}
	usage := func(n int) func(*api.Template) { return func(x *api.Template) { x.Usage = n } }
	key := func(scheme int, key string) func(*api.Template) {
		return func(x *api.Template) { x.Scheme, x.Key = scheme, key }
	}
	ed, ec := libraryKey(t, api.Ed25519, secret(3)), libraryKey(t, api.Ecdsa, secret(3))
	changes := []func(*api.Template){
		noCa(0), noCa(1), noCa(127), noCa(-2), noCa(128), withCa(-2), withCa(128), withCa(255), withCa(math.MaxInt), withCa(math.MinInt),
		usage(0), usage(-2), usage(256), usage(257), usage(384), usage(math.MaxInt), usage(math.MinInt), usage(-256),
		key(api.Ed25519, ec), key(api.Ecdsa, ed), key(0, ed), key(0, ec), key(-1, ed), key(api.P256, ec), key(api.X25519, ed),
		key(api.Ed25519, ""), key(api.Ecdsa, ""), key(api.Ed25519, ed[1:]), key(api.Ed25519, ed+"\x00"), key(api.Ecdsa, ec[1:]), key(api.Ecdsa, "\x02"+ec[1:]), key(api.Ecdsa, ec+"\x00"),
	}
	for _, text := range []string{"", "a b", "a_b", "\u00E4", strings.Repeat("a", 65), strings.Repeat("a", 1<<16)} {
		changes = append(changes,
			func(x *api.Template) { x.Issuer = text },
			func(x *api.Template) { x.Subject = text },
			func(x *api.Template) { x.Names = []string{text} },
			func(x *api.Template) { x.Names = []string{"a", "b", text} },
			func(x *api.Template) { x.Names = []string{text, "b"} },
		)
	}
	for _, n := range []uint64{lastSecond + 1, 1 << 38, 1 << 62, 1 << 63, math.MaxUint64, math.MaxUint64 - 86400} {
		changes = append(changes, func(x *api.Template) { x.From = n }, func(x *api.Template) { x.To = n })
	}
	for _, n := range []int{9, 10, 100} {
		changes = append(changes, func(x *api.Template) { x.Names = slices.Repeat([]string{"a"}, n) })
	}
	for i, change := range changes {
		for _, x := range []api.Template{plain(t), full(t)} {
			change(&x)
			if cert.May(x) {
				t.Errorf("%d: May(%#v)", i, x)
			}
			checkMakeError(t, x, api.Ed25519, secret(1), api.ErrArg)
			// It is told ahead of what the secret is.
			checkMakeError(t, x, api.Ecdsa, nil, api.ErrArg)
		}
	}
	if cert.May(api.Template{}) {
		t.Error("a zero template")
	}
}

// That a template may be says nothing of which time is the first.
func TestMayTimesAnyhow(t *testing.T) {
	x := plain(t)
	x.From, x.To = 5, 4
	c := mustParse(t, mustMake(t, x, api.Ed25519, secret(1)))
	if !cert.May(x) || c.T.From != 5 || c.T.To != 4 {
		t.Errorf("%#v", c.T)
	}
}

func TestMake(t *testing.T) {
	t.Parallel()
	for i, x := range templates(t) {
		scheme := []int{api.Ed25519, api.Ecdsa}[i/2%2]
		before := fmt.Sprintf("%#v", x)
		got := mustMake(t, x, scheme, secret(7))
		if want := signedBy(t, x, scheme, secret(7)); got != want {
			t.Fatalf("%#v: %X, not %X", x, got, want)
		}
		if after := fmt.Sprintf("%#v", x); after != before {
			t.Errorf("%s, not %s", after, before)
		}
	}
}

// P14.2: what is made is read as it was, and is signed by its issuer's key.
func TestThereAndBack(t *testing.T) {
	t.Parallel()
	for i, x := range templates(t) {
		scheme := []int{api.Ed25519, api.Ecdsa}[i/2%2]
		raw := mustMake(t, x, scheme, secret(7))
		c := mustParse(t, raw)
		if c.Raw != raw || !same(c.T, x) || c.Scheme != scheme || !cert.May(c.T) {
			t.Fatalf("%#v, not %#v", c.T, x)
		}
		want, ok := readByWords(raw)
		if !ok || !reflect.DeepEqual(c, want) {
			t.Fatalf("%#v, not %#v", c, want)
		}
		if e := c.Signed(scheme, libraryKey(t, scheme, secret(7))); e != api.OK {
			t.Errorf("%#v: Signed: %d", x, e)
		}
		if again := mustMake(t, c.T, scheme, secret(7)); again != raw {
			t.Errorf("%X, not %X", again, raw)
		}
	}
}

func TestMakeErrors(t *testing.T) {
	x := full(t)
	order := bin(t, "FFFFFFFF00000000FFFFFFFFFFFFFFFFBCE6FAADA7179E84F3B9CAC2FC632551")
	for _, scheme := range []int{0, -1, 1, api.Ed25519 + 1, api.Ecdsa - 1, api.X25519, api.P256, api.Ed25519 << 1, api.Ecdsa | 1<<32, math.MaxInt, math.MinInt} {
		checkMakeError(t, x, scheme, secret(1), api.ErrArg)
		// That there is no such scheme is told ahead of the secret's length.
		checkMakeError(t, x, scheme, nil, api.ErrArg)
	}
	for _, n := range []int{0, 1, 31, 33, 64} {
		checkMakeError(t, x, api.Ed25519, make([]byte, n), api.ErrLen)
		checkMakeError(t, x, api.Ecdsa, make([]byte, n), api.ErrLen)
	}
	checkMakeError(t, x, api.Ecdsa, make([]byte, 32), api.ErrArg)
	checkMakeError(t, x, api.Ecdsa, []byte(order), api.ErrArg)
	mustMake(t, x, api.Ed25519, make([]byte, 32))
	mustMake(t, x, api.Ed25519, []byte(order))
}

// What is handed in isn't changed, and isn't kept; what is answered is new.
func TestArgumentsStay(t *testing.T) {
	x := full(t)
	room := []string{"a.b", "c.d", "behind"}
	x.Names = room[:2]
	key := secret(9)
	raw := mustMake(t, x, api.Ecdsa, key)
	if !bytes.Equal(key, secret(9)) || !slices.Equal(room, []string{"a.b", "c.d", "behind"}) {
		t.Error(key, room)
	}
	room[0], key[0] = "other", 1
	one, two := mustParse(t, raw), mustParse(t, raw)
	one.T.Names[0] = "turned"
	if !slices.Equal(two.T.Names, []string{"a.b", "c.d"}) {
		t.Error(two.T.Names)
	}
	if again := mustParse(t, raw); !slices.Equal(again.T.Names, []string{"a.b", "c.d"}) || again.For("turned") || !one.For("turned") {
		t.Error(again.T.Names)
	}
}

// The greatest templates' certificates are made, as the words name no length
// there, but are longer than what can be read.
func TestGreatest(t *testing.T) {
	x := full(t)
	long := strings.Repeat("n", 64)
	x.Issuer, x.Subject, x.From, x.Scheme, x.Key = long, long, lastSecond, api.Ecdsa, libraryKey(t, api.Ecdsa, secret(2))
	for n := range 9 {
		x.Names = slices.Repeat([]string{long}, n)
		raw := mustMake(t, x, api.Ecdsa, secret(7))
		if want := signedBy(t, x, api.Ecdsa, secret(7)); raw != want {
			t.Errorf("%d names: %X, not %X", n, raw, want)
		}
		if n < 8 {
			if c := mustParse(t, raw); !same(c.T, x) {
				t.Errorf("%#v", c.T)
			}
		} else if len(raw) <= api.MaxCert {
			t.Errorf("%d bytes", len(raw))
		} else {
			checkRefused(t, "greatest", raw)
		}
	}
}
