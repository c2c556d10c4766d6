package cert

import (
	"bytes"
	"strings"

	"cartouche/api"
	"cartouche/der"
)

// longestNumber is how many bytes a number has at most.
const longestNumber = 8

// A reading of a certificate goes on where something isn't as it must be, and
// has failed then, for good: it is asked once, at its end, as a der.Reader is.
type reading struct{ failed bool }

// want: what must be so.
func (x *reading) want(ok bool) { x.failed = x.failed || !ok }

func (x *reading) certificate(raw string) Cert {
	all := der.From([]byte(raw))
	parts := all.In(der.Seq)
	in := parts.Take(der.Seq)
	t, inner := x.body(der.From(in))
	outer := x.scheme(parts, algorithm)
	sig := x.wholeBits(parts)
	x.want(inner == outer && parts.Done() && all.Done())
	// A length is written in one way alone: this is the element that was taken.
	signed := der.Put(der.Seq, in)
	return Cert{Raw: raw, Body: string(signed), T: t, Scheme: outer, Sig: sig}
}

// body: the template of what is signed, and the signature's scheme.
func (x *reading) body(r *der.Reader) (api.Template, int) {
	t := api.Template{Path: unsaid, Usage: unsaid}
	x.version(r)
	t.Serial = x.number(r)
	scheme := x.scheme(r, algorithm)
	t.Issuer = x.name(r)
	t.From, t.To = x.times(r)
	t.Subject = x.name(r)
	t.Scheme, t.Key = x.key(r)
	if r.Next(extensionsTag) {
		x.extensions(r, &t)
	}
	x.want(r.Done())
	return t, scheme
}

func (x *reading) version(r *der.Reader) {
	in := r.In(versionTag)
	x.want(x.number(in) == version && in.Done())
}

func (x *reading) number(r *der.Reader) uint64 {
	b, ok := der.Whole(r.Take(der.Int))
	x.want(ok && len(b) <= longestNumber)
	n := uint64(0)
	for _, c := range b {
		n = n<<8 | uint64(c)
	}
	return n
}

// scheme: the one whose element (as the function tells) is next.
func (x *reading) scheme(r *der.Reader, element func(scheme int) []byte) int {
	b := der.Put(der.Seq, r.Take(der.Seq))
	for _, scheme := range [2]int{api.Ed25519, api.Ecdsa} {
		if bytes.Equal(b, element(scheme)) {
			return scheme
		}
	}
	x.failed = true
	return 0
}

func (x *reading) name(r *der.Reader) string {
	all := r.In(der.Seq)
	set := all.In(der.Set)
	part := set.In(der.Seq)
	x.want(string(part.Take(der.Oid)) == oidName)
	text := string(part.Take(der.Utf8))
	x.want(Text(text) && part.Done() && set.Done() && all.Done())
	return text
}

func (x *reading) times(r *der.Reader) (from, to uint64) {
	in := r.In(der.Seq)
	from, to = x.time(in), x.time(in)
	x.want(in.Done())
	return from, to
}

func (x *reading) time(r *der.Reader) uint64 {
	tag := byte(der.Utc)
	if r.Next(der.General) {
		tag = der.General
	}
	b := r.Take(tag)
	t, ok := der.Time(tag, b)
	// Up to 2049 a time of the longer form would be read, but isn't written.
	x.want(ok && bytes.Equal(der.Put(tag, b), der.When(t)))
	return t
}

func (x *reading) key(r *der.Reader) (int, string) {
	in := r.In(der.Seq)
	scheme := x.scheme(in, kind)
	key := x.wholeBits(in)
	x.want(in.Done() && Key(scheme, key))
	return scheme, key
}

// wholeBits: the bytes of bits, none of which is left over.
func (x *reading) wholeBits(r *der.Reader) string {
	b, ok := strings.CutPrefix(string(r.Take(der.Bits)), "\x00")
	x.want(ok)
	return b
}

// truth: is a Bool next?
func (x *reading) truth(r *der.Reader) bool {
	if !r.Next(der.Bool) {
		return false
	}
	x.want(string(r.Take(der.Bool)) == yes)
	return true
}
