package cert

import (
	"cartouche/api"
	"cartouche/der"
)

// Tags of a body's parts that have a number of their own.
const (
	versionTag    = 0xA0
	extensionsTag = 0xA3
)

// version is the third one's number, the first that has extensions.
const version = 2

// oidName is what the only part of a name is called.
const oidName = "\x55\x04\x03"

// yes is the byte of a Bool; where it isn't so none is written.
const yes = "\xFF"

// body: what is signed, by a signature's scheme, as an element.
func body(t api.Template, scheme int) []byte {
	parts := [][]byte{
		der.Put(versionTag, der.Number(version)),
		der.Number(t.Serial),
		algorithm(scheme),
		named(t.Issuer),
		der.Put(der.Seq, der.When(t.From), der.When(t.To)),
		named(t.Subject),
		der.Put(der.Seq, kind(t.Scheme), wholeBits([]byte(t.Key))),
	}
	if list := extensions(t); len(list) > 0 {
		parts = append(parts, der.Put(extensionsTag, der.Put(der.Seq, list...)))
	}
	return der.Put(der.Seq, parts...)
}

// named: a name as an element.
func named(text string) []byte {
	part := der.Put(der.Seq, object(oidName), der.Put(der.Utf8, []byte(text)))
	return der.Put(der.Seq, der.Put(der.Set, part))
}

// object: what something is called, as an element.
func object(oid string) []byte { return der.Put(der.Oid, []byte(oid)) }

// truth: that something is so, as an element.
func truth() []byte { return der.Put(der.Bool, []byte(yes)) }

// wholeBits: bytes as an element of bits, none of which is left over.
func wholeBits(b []byte) []byte { return der.Put(der.Bits, []byte{0}, b) }
