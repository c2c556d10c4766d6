package cert_test

import (
	"crypto"
	"crypto/ecdh"
	"crypto/ecdsa"
	"crypto/ed25519"
	"crypto/elliptic"
	"crypto/sha256"
	"encoding/hex"
	"math/big"
	"regexp"
	"strings"
	"testing"
	"time"

	"cartouche/api"
	"cartouche/cert"
	"cartouche/edwards"
)

// The chapter's words once more, by other means: certificates are written as
// texts and signed by Go's library, and what can be read is told by patterns of
// the elements, written in base 16.

// el: an element.
func el(tag byte, parts ...string) string {
	in := strings.Join(parts, "")
	n := len(in)
	if n < 128 {
		return string([]byte{tag, byte(n)}) + in
	}
	if n < 256 {
		return string([]byte{tag, 0x81, byte(n)}) + in
	}
	return string([]byte{tag, 0x82, byte(n >> 8), byte(n)}) + in
}

func seq(parts ...string) string { return el(0x30, parts...) }

func bin(t *testing.T, s string) string {
	t.Helper()
	b, err := hex.DecodeString(strings.ReplaceAll(s, " ", ""))
	if err != nil {
		t.Fatal(err)
	}
	return string(b)
}

// whole: an Int of a number that isn't below 0.
func whole(n uint64) string { return el(2, string(wholeBytes(new(big.Int).SetUint64(n)))) }

func wholeBytes(n *big.Int) []byte {
	b := n.Bytes()
	if len(b) == 0 || b[0] >= 128 {
		b = append([]byte{0}, b...)
	}
	return b
}

// at: a time.
func at(t uint64) string {
	moment := time.Unix(int64(t), 0).UTC()
	if moment.Year() < 2050 {
		return el(0x17, moment.Format("060102150405Z"))
	}
	return el(0x18, moment.Format("20060102150405Z"))
}

func named(text string) string {
	return seq(el(0x31, seq(el(6, "\x55\x04\x03"), el(0x0C, text))))
}

const (
	algorithmOfEd25519 = "\x30\x05\x06\x03\x2B\x65\x70"
	algorithmOfEcdsa   = "\x30\x0A\x06\x08\x2A\x86\x48\xCE\x3D\x04\x03\x02"
	kindOfP256         = "\x30\x13\x06\x07\x2A\x86\x48\xCE\x3D\x02\x01\x06\x08\x2A\x86\x48\xCE\x3D\x03\x01\x07"
)

func algorithmOf(scheme int) string {
	if scheme == api.Ed25519 {
		return algorithmOfEd25519
	}
	return algorithmOfEcdsa
}

func keyOf(scheme int, key string) string {
	if scheme == api.Ed25519 {
		return seq(algorithmOfEd25519, el(3, "\x00", key))
	}
	return seq(kindOfP256, el(3, "\x00", key))
}

const (
	ca       = "\x06\x03\x55\x1D\x13"
	usage    = "\x06\x03\x55\x1D\x0F"
	uses     = "\x06\x03\x55\x1D\x25"
	names    = "\x06\x03\x55\x1D\x11"
	extra    = "\x06\x04\x2B\x06\x01\x7F"
	server   = "\x06\x08\x2B\x06\x01\x05\x05\x07\x03\x01"
	client   = "\x06\x08\x2B\x06\x01\x05\x05\x07\x03\x02"
	critical = "\x01\x01\xFF"
)

// extension: of an Oid and, maybe, critical, its value.
func extension(head, value string) string { return seq(head, el(4, value)) }

// extended: the extensions of a body.
func extended(list ...string) string { return el(0xA3, seq(list...)) }

// extensionsOf: a template's, none where there are none.
func extensionsOf(x api.Template) string {
	var list []string
	if x.Ca && x.Path < 0 {
		list = append(list, extension(ca+critical, seq(critical)))
	}
	if x.Ca && x.Path >= 0 {
		list = append(list, extension(ca+critical, seq(critical, el(2, string([]byte{byte(x.Path)})))))
	}
	if x.Usage >= 0 {
		low := 0
		for x.Usage>>low&1 == 0 {
			low++
		}
		list = append(list, extension(usage+critical, el(3, string([]byte{byte(low), byte(x.Usage)}))))
	}
	switch {
	case x.Server && x.Client:
		list = append(list, extension(uses, seq(server, client)))
	case x.Server:
		list = append(list, extension(uses, seq(server)))
	case x.Client:
		list = append(list, extension(uses, seq(client)))
	}
	if len(x.Names) > 0 {
		var each []string
		for _, name := range x.Names {
			each = append(each, el(0x82, name))
		}
		list = append(list, extension(names, seq(each...)))
	}
	if x.Extra {
		list = append(list, extension(extra+critical, el(5)))
	}
	if len(list) == 0 {
		return ""
	}
	return extended(list...)
}

// parts are a certificate's elements, each of which a test may exchange.
type parts struct {
	version, serial, inner, issuer, times, subject, key, extensions string

	outer, sig, behind string
}

func partsOf(x api.Template, scheme int) parts {
	return parts{
		version: el(0xA0, el(2, "\x02")), serial: whole(x.Serial), inner: algorithmOf(scheme),
		issuer: named(x.Issuer), times: seq(at(x.From), at(x.To)), subject: named(x.Subject),
		key: keyOf(x.Scheme, x.Key), extensions: extensionsOf(x), outer: algorithmOf(scheme), sig: el(3, "\x00signed"),
	}
}

func (p parts) body() string {
	return seq(p.version, p.serial, p.inner, p.issuer, p.times, p.subject, p.key, p.extensions)
}

func (p parts) raw() string { return seq(p.body(), p.outer, p.sig) + p.behind }

// signedBy: the certificate that the words tell, signed by Go's library.
func signedBy(t *testing.T, x api.Template, scheme int, secret []byte) string {
	t.Helper()
	p := partsOf(x, scheme)
	p.sig = el(3, "\x00", librarySign(t, scheme, secret, p.body()))
	return p.raw()
}

// librarySign: what Go's library signs without a random source.
func librarySign(t *testing.T, scheme int, secret []byte, msg string) string {
	t.Helper()
	if scheme == api.Ed25519 {
		return string(ed25519.Sign(ed25519.NewKeyFromSeed(secret), []byte(msg)))
	}
	key, err := ecdsa.ParseRawPrivateKey(elliptic.P256(), secret)
	if err != nil {
		t.Fatal(err)
	}
	sum := sha256.Sum256([]byte(msg))
	sig, err := key.Sign(nil, sum[:], crypto.SHA256)
	if err != nil {
		t.Fatal(err)
	}
	return string(sig)
}

// libraryKey: a secret's public key.
func libraryKey(t *testing.T, scheme int, secret []byte) string {
	t.Helper()
	if scheme == api.Ed25519 {
		return string(ed25519.NewKeyFromSeed(secret).Public().(ed25519.PublicKey))
	}
	key, err := ecdh.P256().NewPrivateKey(secret)
	if err != nil {
		t.Fatal(err)
	}
	return string(key.PublicKey().Bytes())
}

// dump: elements as a text: a tag and, in brackets, what it holds: elements, if
// the tag's bit 20 says so, else bytes; false: these are no elements.
func dump(s string) (string, bool) {
	var all strings.Builder
	for s != "" {
		tag, in, behind, ok := cutElement(s)
		if !ok {
			return "", false
		}
		all.WriteString(hexOf(string([]byte{tag})))
		if tag&0x20 == 0 {
			all.WriteString("[" + hexOf(in) + "]")
		} else if inner, ok := dump(in); ok {
			all.WriteString("(" + inner + ")")
		} else {
			return "", false
		}
		s = behind
	}
	return all.String(), true
}

func hexOf(s string) string { return strings.ToUpper(hex.EncodeToString([]byte(s))) }

// cutElement: any length is read, and written anew: only the shortest one is the
// same.
func cutElement(s string) (tag byte, in, behind string, ok bool) {
	if len(s) < 2 || s[0]&31 == 31 {
		return 0, "", "", false
	}
	n, begin := int(s[1]), 2
	if s[1] >= 128 {
		size := int(s[1] - 128)
		if size > 3 || len(s) < 2+size {
			return 0, "", "", false
		}
		n, begin = 0, 2+size
		for _, b := range []byte(s[2:begin]) {
			n = n<<8 | int(b)
		}
	}
	if len(s) < begin+n || !strings.HasPrefix(s, el(s[0], s[begin:begin+n])) {
		return 0, "", "", false
	}
	return s[0], s[begin : begin+n], s[begin+n:], true
}

const (
	bytesForm     = `((?:[0-9A-F]{2})*)`
	algorithmForm = `30\(06\[(2B6570|2A8648CE3D040302)\]\)`
	nameForm      = `30\(31\(30\(06\[550403\]0C\[` + bytesForm + `\]\)\)\)`
	timeForm      = `(1[78]\[[0-9A-F]*\])`
	keyForm       = `30\(30\((06\[2B6570\]|06\[2A8648CE3D0201\]06\[2A8648CE3D030107\])\)03\[00` + bytesForm + `\]\)`
	extensionForm = `30\(06\[[0-9A-F]*\](?:01\[FF\])?04\[[0-9A-F]*\]\)`
)

var (
	wholeForm = regexp.MustCompile(`^30\(30\(A0\(02\[02\]\)02\[` + bytesForm + `\]` + algorithmForm + nameForm +
		`30\(` + timeForm + timeForm + `\)` + nameForm + keyForm + `(?:A3\(30\(((?:` + extensionForm + `)+)\)\))?\)` +
		algorithmForm + `03\[00` + bytesForm + `\]\)$`)
	oneExtension = regexp.MustCompile(`30\(06\[([0-9A-F]*)\](01\[FF\])?04\[([0-9A-F]*)\]\)`)
	textForm     = regexp.MustCompile(`^[A-Za-z0-9.*-]{1,64}$`)
	caForm       = regexp.MustCompile(`^30\((?:(01\[FF\])(?:02\[([0-7][0-9A-F])\])?)?\)$`)
	usageForm    = regexp.MustCompile(`^03\[0([0-7])([0-9A-F]{2})\]$`)
	usesForm     = regexp.MustCompile(`^30\((?:06\[[0-9A-F]*\])+\)$`)
	namesForm    = regexp.MustCompile(`^30\((?:82\[[0-9A-F]+\]){1,8}\)$`)
	oneName      = regexp.MustCompile(`82\[([0-9A-F]+)\]`)
)

// readByWords: what a certificate tells; false: it can't be read.
func readByWords(raw string) (cert.Cert, bool) {
	if len(raw) > 1024 {
		return cert.Cert{}, false
	}
	all, isAll := dump(raw)
	m := wholeForm.FindStringSubmatch(all)
	if !isAll || m == nil || m[2] != m[10] {
		return cert.Cert{}, false
	}
	x := api.Template{Issuer: unhexed(m[3]), Subject: unhexed(m[6]), Path: -1, Usage: -1}
	serial := unhexed(m[1])
	n := new(big.Int).SetBytes([]byte(serial))
	from, isFrom := timeByWords(m[4])
	to, isTo := timeByWords(m[5])
	if serial != string(wholeBytes(n)) || n.BitLen() > 64 || !isFrom || !isTo || !textForm.MatchString(x.Issuer) || !textForm.MatchString(x.Subject) {
		return cert.Cert{}, false
	}
	x.Serial, x.From, x.To = n.Uint64(), from, to
	x.Scheme, x.Key = schemeNamed(m[7]), unhexed(m[8])
	if !keyByWords(x.Scheme, x.Key) || !extensionsByWords(m[9], &x) {
		return cert.Cert{}, false
	}
	_, inside, _, _ := cutElement(raw)
	_, in, _, _ := cutElement(inside)
	return cert.Cert{Raw: raw, Body: seq(in), T: x, Scheme: schemeNamed(m[10]), Sig: unhexed(m[11])}, true
}

func unhexed(s string) string {
	b, err := hex.DecodeString(s)
	if err != nil {
		panic(err)
	}
	return string(b)
}

func schemeNamed(oids string) int {
	if strings.Contains(oids, "2B6570") {
		return api.Ed25519
	}
	return api.Ecdsa
}

func timeByWords(dumped string) (uint64, bool) {
	layout, text := "060102150405Z", unhexed(dumped[3:len(dumped)-1])
	if dumped[:2] == "18" {
		layout = "20060102150405Z"
	}
	moment, err := time.Parse(layout, text)
	if err != nil || moment.Unix() < 0 || at(uint64(moment.Unix())) != el(unhexed(dumped[:2])[0], text) {
		return 0, false
	}
	return uint64(moment.Unix()), true
}

func keyByWords(scheme int, key string) bool {
	if scheme == api.Ed25519 {
		return edwards.Point([]byte(key))
	}
	_, err := ecdh.P256().NewPublicKey([]byte(key))
	return err == nil && key[0] == 4
}

func extensionsByWords(list string, x *api.Template) bool {
	var seen []string
	for _, m := range oneExtension.FindAllStringSubmatch(list, -1) {
		for _, other := range seen {
			if other == m[1] {
				return false
			}
		}
		seen = append(seen, m[1])
		value, isValue := dump(unhexed(m[3]))
		var ok bool
		switch m[1] {
		case "551D13":
			ok = caByWords(value, x)
		case "551D0F":
			ok = usageByWords(value, x)
		case "551D25":
			ok = usesForm.MatchString(value)
			x.Server = strings.Contains(value, "[2B06010505070301]")
			x.Client = strings.Contains(value, "[2B06010505070302]")
		case "551D11":
			ok = namesByWords(value, x)
		default:
			ok, isValue = true, true
			x.Extra = x.Extra || m[2] != ""
		}
		if !ok || !isValue {
			return false
		}
	}
	return true
}

func caByWords(value string, x *api.Template) bool {
	m := caForm.FindStringSubmatch(value)
	if m == nil {
		return false
	}
	x.Ca = m[1] != ""
	if m[2] != "" {
		x.Path = int(unhexed(m[2])[0])
	}
	return true
}

func usageByWords(value string, x *api.Template) bool {
	m := usageForm.FindStringSubmatch(value)
	if m == nil {
		return false
	}
	low, b := int(m[1][0]-'0'), int(unhexed(m[2])[0])
	x.Usage = b
	return b>>low&1 == 1 && b&(1<<low-1) == 0
}

func namesByWords(value string, x *api.Template) bool {
	if !namesForm.MatchString(value) {
		return false
	}
	for _, m := range oneName.FindAllStringSubmatch(value, -1) {
		if !textForm.MatchString(unhexed(m[1])) {
			return false
		}
		x.Names = append(x.Names, unhexed(m[1]))
	}
	return true
}
