package cert

import (
	"math/bits"

	"cartouche/api"
	"cartouche/der"
)

// What the extensions are called.
const (
	oidCa    = "\x55\x1D\x13"
	oidUsage = "\x55\x1D\x0F"
	oidUses  = "\x55\x1D\x25"
	oidNames = "\x55\x1D\x11"
	oidExtra = "\x2B\x06\x01\x7F"
)

// What the extended usages are called.
const (
	oidServer = "\x2B\x06\x01\x05\x05\x07\x03\x01"
	oidClient = "\x2B\x06\x01\x05\x05\x07\x03\x02"
)

// nameTag is that of a host's name.
const nameTag = 0x82

// extensions: a template's, each as an element.
func extensions(t api.Template) [][]byte {
	var list [][]byte
	if t.Ca {
		list = append(list, extension(oidCa, true, caValue(t.Path)))
	}
	if t.Usage != unsaid {
		list = append(list, extension(oidUsage, true, usageValue(byte(t.Usage))))
	}
	if t.Server || t.Client {
		list = append(list, extension(oidUses, false, usesValue(t.Server, t.Client)))
	}
	if len(t.Names) > 0 {
		list = append(list, extension(oidNames, false, namesValue(t.Names)))
	}
	if t.Extra {
		list = append(list, extension(oidExtra, true, der.Put(der.Null)))
	}
	return list
}

func extension(oid string, critical bool, value []byte) []byte {
	in := der.Put(der.Octets, value)
	if critical {
		return der.Put(der.Seq, object(oid), truth(), in)
	}
	return der.Put(der.Seq, object(oid), in)
}

func caValue(path int) []byte {
	if path == unsaid {
		return der.Put(der.Seq, truth())
	}
	return der.Put(der.Seq, truth(), der.Number(uint64(path)))
}

func usageValue(usage byte) []byte {
	return der.Put(der.Bits, []byte{leftOver(usage), usage})
}

// leftOver: how many of a usage's lowest bits are 0.
func leftOver(usage byte) byte { return byte(bits.TrailingZeros8(usage)) }

func usesValue(server, client bool) []byte {
	var list [][]byte
	if server {
		list = append(list, object(oidServer))
	}
	if client {
		list = append(list, object(oidClient))
	}
	return der.Put(der.Seq, list...)
}

func namesValue(names []string) []byte {
	var list [][]byte
	for _, name := range names {
		list = append(list, der.Put(nameTag, []byte(name)))
	}
	return der.Put(der.Seq, list...)
}
