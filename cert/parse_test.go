package cert_test

import (
	"reflect"
	"slices"
	"strings"
	"testing"

	"cartouche/api"
	"cartouche/cert"
)

func checkRefused(t *testing.T, what, raw string) {
	t.Helper()
	if c, e := cert.Parse(raw); !reflect.DeepEqual(c, cert.Cert{}) || e != api.ErrCert {
		t.Errorf("%s: %X: %#v, %d", what, raw, c.T, e)
	}
}

// checkRead: it tells what is wanted, and all else as the certificate says.
func checkRead(t *testing.T, what string, p parts, want api.Template) {
	t.Helper()
	c, e := cert.Parse(p.raw())
	if e != api.OK || c.Raw != p.raw() || c.Body != p.body() || c.Sig != "signed" || el(3, "\x00", c.Sig) != p.sig || algorithmOf(c.Scheme) != p.outer {
		t.Errorf("%s: %X: %#v, %d", what, p.raw(), c, e)
	}
	if !same(c.T, want) {
		t.Errorf("%s: %#v, not %#v", what, c.T, want)
	}
}

// checkAsWords: the same answer as that of the patterns; was it read?
func checkAsWords(t *testing.T, raw string) bool {
	t.Helper()
	want, ok := readByWords(raw)
	errno := api.OK
	if !ok {
		errno = api.ErrCert
	}
	if c, e := cert.Parse(raw); !reflect.DeepEqual(c, want) || e != errno {
		t.Fatalf("Parse(%X): %#v, %d, not %#v, %d", raw, c, e, want, errno)
	}
	return ok
}

func TestRefusedParts(t *testing.T) {
	x := full(t)
	good := partsOf(x, api.Ed25519)
	checkRead(t, "good", good, x)
	ed, ec := libraryKey(t, api.Ed25519, secret(3)), libraryKey(t, api.Ecdsa, secret(3))
	text := func(tag byte, s string) string {
		return seq(el(0x31, seq(el(6, "\x55\x04\x03"), el(tag, s))))
	}
	utc, general := el(0x17, "000229000000Z"), el(0x18, "20500101000000Z")
	none := el(5)
	for what, wrong := range map[string]struct {
		part func(p *parts) *string
		list []string
	}{
		"version": {func(p *parts) *string { return &p.version }, []string{
			"", el(2, "\x02"), el(0xA0), el(0xA0, whole(0)), el(0xA0, whole(1)), el(0xA0, whole(3)), el(0xA0, whole(258)), el(0xA0, el(2, "\x00\x02")), el(0xA0, el(2, "\x82")), el(0xA0, whole(2), none), el(0xA0, whole(2), whole(2)),
			el(0xA1, whole(2)), el(0x80, "\x02"), el(0xA0, el(1, "\x02")), el(0xA0, seq(whole(2))), el(0xA0, whole(2)) + none, el(0x80, whole(2)),
		}},
		"serial": {func(p *parts) *string { return &p.serial }, []string{
			"", el(2), el(2, "\x80"), el(2, "\xFF"), el(2, "\x00\x01"), el(2, "\x00\x00"), el(2, "\x01"+strings.Repeat("\x00", 8)), el(2, strings.Repeat("\x7F", 9)), el(2, "\x00\x80"+strings.Repeat("\x00", 8)), el(2, strings.Repeat("\xFF", 8)), el(2, strings.Repeat("\x7F", 100)), el(3, "\x01"), whole(1) + whole(2),
		}},
		"inner algorithm": {func(p *parts) *string { return &p.inner }, wrongAlgorithms(algorithmOfEcdsa)},
		"outer algorithm": {func(p *parts) *string { return &p.outer }, wrongAlgorithms(algorithmOfEcdsa)},
		"issuer":          {func(p *parts) *string { return &p.issuer }, wrongNames(text)},
		"subject":         {func(p *parts) *string { return &p.subject }, wrongNames(text)},
		"times": {func(p *parts) *string { return &p.times }, []string{
			"", seq(), seq(utc), seq(utc, utc, utc), seq(utc, utc, none), utc + utc, el(0x31, utc, utc), seq(utc, none), seq(none, utc), seq(whole(1), whole(2)),
			seq(el(0x18, "20491231235959Z"), general), seq(utc, el(0x18, "20000229000000Z")), seq(el(0x18, "19700101000000Z"), utc), seq(el(0x17, "691231235959Z"), utc), seq(el(0x17, "500101000000Z"), utc), seq(el(0x18, "19691231235959Z"), utc),
			seq(el(0x17, "010229000000Z"), utc), seq(utc, el(0x17, "001301000000Z")), seq(utc, el(0x17, "000101240000Z")), seq(utc, el(0x17, "0001010000Z")), seq(utc, el(0x17, "000101000000")), seq(utc, el(0x17, "000101000000+0000")), seq(utc, el(0x18, "205001010000Z")), seq(utc, el(0x18, "20500101000000.0Z")),
			seq(el(0x17, "20500101000000Z"), utc), seq(el(0x18, "000229000000Z"), utc), seq(utc, el(0x17)), seq(utc, el(0x18)), seq(el(0x19, "000229000000Z"), utc), seq(utc, utc) + none,
		}},
		"key": {func(p *parts) *string { return &p.key }, []string{
			"", seq(), seq(algorithmOfEd25519), seq(el(3, "\x00"+ed)), seq(el(3, "\x00"+ed), algorithmOfEd25519), keyOf(api.Ed25519, ed[1:]), keyOf(api.Ed25519, ed+"\x00"), keyOf(api.Ed25519, ec), keyOf(api.Ecdsa, ed), keyOf(api.Ecdsa, ec[1:]), keyOf(api.Ecdsa, ec+"\x00"), keyOf(api.Ecdsa, "\x02"+ec[1:33]), keyOf(api.Ecdsa, ec[:64]+"\x00"), keyOf(api.Ed25519, "\x02"+strings.Repeat("\x00", 31)), keyOf(api.Ed25519, strings.Repeat("\xFF", 32)), keyOf(api.Ed25519, ""),
			seq(algorithmOfEd25519, el(3, "\x01"+ed)), seq(algorithmOfEd25519, el(3, ed)), seq(algorithmOfEd25519, el(4, "\x00"+ed)), seq(algorithmOfEd25519, el(3)), seq(algorithmOfEd25519, el(3, "\x00"+ed), none), el(0x31, algorithmOfEd25519, el(3, "\x00"+ed)),
			seq(algorithmOfEcdsa, el(3, "\x00"+ec)), seq(seq(el(6, "\x2A\x86\x48\xCE\x3D\x02\x01")), el(3, "\x00"+ec)), seq(seq(el(6, "\x2A\x86\x48\xCE\x3D\x03\x01\x07"), el(6, "\x2A\x86\x48\xCE\x3D\x02\x01")), el(3, "\x00"+ec)), seq(seq(el(6, "\x2A\x86\x48\xCE\x3D\x02\x01"), el(6, "\x2B\x81\x04\x00\x22")), el(3, "\x00"+ec)), seq(kindOfP256[:1]+"\x15"+kindOfP256[2:]+none, el(3, "\x00"+ec)), seq(seq(el(6, "\x2B\x65\x70"), none), el(3, "\x00"+ed)), seq(seq(el(6, "\x2B\x65\x6E")), el(3, "\x00"+ed)), keyOf(api.Ed25519, ed) + keyOf(api.Ed25519, ed),
		}},
		"signature": {func(p *parts) *string { return &p.sig }, []string{
			"", el(3), el(3, "\x01signed"), el(3, "\x07signed"), el(3, "signed"), el(4, "\x00signed"), el(3, "\x00signed") + none, "\x03\x81\x07\x00signed", "\x03\x08\x00signed", seq(el(3, "\x00signed")),
		}},
		"behind": {func(p *parts) *string { return &p.behind }, []string{"\x00", none, "\x30", seq()}},
	} {
		for i, s := range wrong.list {
			p := good
			*wrong.part(&p) = s
			checkRefused(t, what, p.raw())
			if checkAsWords(t, p.raw()) {
				t.Errorf("%s %d", what, i)
			}
		}
	}
}

func wrongAlgorithms(other string) []string {
	none := el(5)
	return []string{
		"", seq(), other, el(6, "\x2B\x65\x70"), seq(el(6, "\x2B\x65\x70"), none), seq(none, el(6, "\x2B\x65\x70")), seq(el(6, "\x2B\x65\x71")), seq(el(6, "\x2B\x65\x6E")), seq(el(6, "\x2B\x65")), seq(el(6, "\x2B\x65\x70\x00")), seq(el(6)),
		seq(el(5, "\x2B\x65\x70")), el(0x31, el(6, "\x2B\x65\x70")), seq(el(6, "\x2B\x65\x70"), el(6, "\x2B\x65\x70")), algorithmOfEd25519 + none, "\x30\x81\x05\x06\x03\x2B\x65\x70", seq(seq(el(6, "\x2B\x65\x70"))), kindOfP256,
	}
}

func wrongNames(text func(tag byte, s string) string) []string {
	oid, name, none := el(6, "\x55\x04\x03"), el(0x0C, "root"), el(5)
	part := seq(oid, name)
	return []string{
		"", seq(), seq(el(0x31)), seq(el(0x31, seq())), seq(el(0x31, seq(oid))), seq(el(0x31, seq(name))), seq(el(0x31, seq(name, oid))), seq(el(0x31, seq(oid, name, none))), seq(el(0x31, seq(oid, name, name))),
		seq(el(0x31, part, part)), seq(el(0x31, part), el(0x31, part)), seq(el(0x31, part), none), seq(part), el(0x31, part), seq(seq(part)), el(0x31, el(0x31, part)), seq(el(0x31, el(0x31, oid, name))), seq(el(0x31, part)) + none, part, seq(el(0x31, part, none)),
		seq(el(0x31, seq(el(6, "\x55\x04\x0A"), name))), seq(el(0x31, seq(el(6, "\x55\x04"), name))), seq(el(0x31, seq(el(6), name))),
		text(0x13, "root"), text(0x16, "root"), text(4, "root"), text(0x0C, ""), text(0x0C, "a b"), text(0x0C, "a_b"), text(0x0C, "\u00E4"), text(0x0C, "a\x00"), text(0x0C, "\x00"), text(0x0C, strings.Repeat("a", 65)), text(0x0C, strings.Repeat("a", 200)),
	}
}

// What isn't as the template is written, but can be read.
func TestReadParts(t *testing.T) {
	x := full(t)
	for _, scheme := range []int{api.Ed25519, api.Ecdsa} {
		checkRead(t, "signed otherwise", partsOf(x, scheme), x)
	}
	p, y := partsOf(x, api.Ed25519), x
	p.serial, y.Serial = el(2, "\x00"+strings.Repeat("\xFF", 8)), 1<<64-1
	checkRead(t, "the greatest serial", p, y)
	p.serial, y.Serial = el(2, "\x00"), 0
	checkRead(t, "the smallest serial", p, y)
	p.serial, y.Serial = el(2, "\x7F\xFE\xFD\xFC\xFB\xFA\xF9\xF8"), 0x7FFEFDFCFBFAF9F8
	checkRead(t, "a serial's order", p, y)
	p.times, y.From, y.To = seq(el(0x18, "99991231235959Z"), el(0x17, "700101000000Z")), lastSecond, 0
	checkRead(t, "times anyhow", p, y)
	p.times, y.From, y.To = seq(el(0x17, "491231235959Z"), el(0x18, "20500101000000Z")), 2524607999, 2524608000
	checkRead(t, "times of both forms", p, y)
	p.issuer, y.Issuer = named(strings.Repeat("*", 64)), strings.Repeat("*", 64)
	p.subject, y.Subject = named("-"), "-"
	checkRead(t, "names", p, y)
	p.extensions, y = "", plain(t)
	y.Serial, y.From, y.To, y.Issuer, y.Subject = 0x7FFEFDFCFBFAF9F8, 2524607999, 2524608000, strings.Repeat("*", 64), "-"
	checkRead(t, "no extensions", p, y)
}

// withExtensions: a plain template's parts, but for the extensions.
func withExtensions(t *testing.T, s string) parts {
	p := partsOf(plain(t), api.Ed25519)
	p.extensions = s
	return p
}

func TestRefusedExtensions(t *testing.T) {
	no, none := "\x01\x01\x00", el(5)
	name := func(s string) string { return el(0x82, s) }
	isCa := extension(ca+critical, seq(critical))
	wrong := []string{
		// None at all, and lists that are none.
		el(0xA3), extended(), el(0xA3, isCa), el(0xA3, el(0x31, isCa)), el(0xA3, seq(isCa), seq(isCa)), el(0xA3, seq(isCa), none), extended(isCa) + none, extended(isCa) + extended(isCa), el(0xA2, seq(isCa)), el(0x83, seq(isCa)), seq(isCa), none, extended(isCa, none), extended(none), extended(seq()), extended(isCa, seq()),
		// Extensions of another form.
		extended(seq(ca)), extended(seq(ca, critical)), extended(seq(el(4, seq()))), extended(seq(el(4, seq()), ca)), extended(seq(ca, el(4, seq()), none)), extended(seq(ca, el(4, seq()), el(4, seq()))), extended(seq(ca, el(3, seq()))), extended(seq(ca, seq())), extended(el(0x31, ca, el(4, seq()))), extended(seq(el(5, "\x55\x1D\x13"), el(4, seq()))), extended(seq(ca, ca, el(4, seq()))),
		// A Bool is one byte, FF, once, ahead of the value.
		extended(extension(ca+no, seq())), extended(extension(ca+el(1, "\x01"), seq())), extended(extension(ca+el(1), seq())), extended(extension(ca+el(1, "\xFF\xFF"), seq())), extended(extension(ca+critical+critical, seq())), extended(seq(ca, el(4, seq()), critical)), extended(extension(ca+el(2, "\xFF"), seq())),
		extended(extension(extra+no, none)), extended(extension(extra+el(1, "\x7F"), none)), extended(extension(usage+no, "\x03\x02\x07\x80")), extended(seq(extra, critical)), extended(seq(extra)),
	}
	for _, value := range []string{
		"", none, critical, seq(no), seq(el(1, "\x01")), seq(el(1)), seq(el(1, "\xFF\xFF")), seq(critical, critical), seq(critical, none), seq(critical, el(2, "\x80")), seq(critical, whole(128)), seq(critical, whole(255)), seq(critical, whole(256)), seq(critical, whole(1<<32)), seq(critical, whole(1<<63)), seq(critical, whole(1<<64-1)), seq(critical, el(2, "\x01\x00\x00\x00\x00\x00\x00\x00\x05")), seq(critical, el(2)), seq(critical, el(2, "\x00\x05")), seq(critical, el(2, "\xFF")), seq(critical, whole(1), whole(1)), seq(critical, whole(1), none), seq(whole(1), critical), seq(critical, el(3, "\x01")),
		// Who is no authority tells no path.
		seq(whole(0)), seq(whole(5)), seq(whole(127)), seq(no, whole(5)), seq(no), seq(none),
		seq(critical) + none, seq() + none, seq() + "\x00", seq(critical) + seq(critical), el(0x31, critical), "\x30\x81\x03" + critical, "\x30\x04" + critical,
	} {
		wrong = append(wrong, extended(extension(ca+critical, value)), extended(extension(ca, value)))
	}
	for _, value := range []string{
		"", none, el(3), el(3, "\x00"), el(3, "\x00\x00"), el(3, "\x07\x00"), el(3, "\x08\x00"), el(3, "\x06\x80"), el(3, "\x00\x80"), el(3, "\x08\x80"), el(3, "\x07\xC0"), el(3, "\x01\x84"), el(3, "\x03\x84"), el(3, "\x02\x86"), el(3, "\x02\x85"), el(3, "\x00\x84"), el(3, "\x01\x01"), el(3, "\x07\x00\x80"), el(3, "\x07\xFF\x80"), el(3, "\x00\x01\x01"), el(4, "\x07\x80"), el(3, "\xFF\x80"), el(3, "\x87\x80"), seq(el(3, "\x07\x80")), el(3, "\x07\x80") + none, "\x03\x81\x02\x07\x80", "\x03\x03\x07\x80",
	} {
		wrong = append(wrong, extended(extension(usage+critical, value)), extended(extension(usage, value)))
	}
	for _, value := range []string{
		"", none, seq(), server, el(0x31, server), seq(server, none), seq(none, server), seq(none), seq(server) + none, seq(seq(server)), seq(el(5, "\x2B\x06\x01\x05\x05\x07\x03\x01")), seq(server, client[:9]), seq(client, "\x06"), seq(server, whole(1)), "\x30\x81\x0A" + server,
	} {
		wrong = append(wrong, extended(extension(uses, value)), extended(extension(uses+critical, value)))
	}
	for _, value := range []string{
		"", none, seq(), name("a"), el(0x31, name("a")), seq(name("")), seq(name("a b")), seq(name("a_b")), seq(name("\u00E4")), seq(name("a"), name("")), seq(name(" "), name("a")), seq(name("a"), none), seq(el(0x87, "\x7F\x00\x00\x01")), seq(name("a"), el(0x87, "\x7F\x00\x00\x01")), seq(el(0x81, "a@b")), seq(el(0x0C, "a")), seq(el(0xA2, "a")), seq(el(2, "a")), seq(name("a")) + none, seq(seq(name("a"))), seq(name(strings.Repeat("a", 65))), seq(strings.Repeat(name("a"), 9)), seq(strings.Repeat(name("a"), 100)), seq(name("a"), "\x82\x02b"), "\x30\x81\x03" + name("a"),
	} {
		wrong = append(wrong, extended(extension(names, value)), extended(extension(names+critical, value)))
	}
	for _, s := range wrong {
		p := withExtensions(t, s)
		checkRefused(t, "extensions", p.raw())
		if checkAsWords(t, p.raw()) {
			t.Errorf("%X", s)
		}
	}
}

// None of them may stand twice, known or not, critical or not, of whatever value.
func TestTwice(t *testing.T) {
	other := el(6, "\x2A")
	each := []string{
		extension(ca+critical, seq()), extension(usage+critical, "\x03\x02\x07\x80"), extension(uses, seq(server)), extension(names, seq(el(0x82, "a"))), extension(extra+critical, el(5)), extension(other, "any"), extension(el(6), ""),
	}
	again := []string{
		extension(ca, seq(critical)), extension(usage, "\x03\x02\x02\x84"), extension(uses+critical, seq(client)), extension(names, seq(el(0x82, "b"))), extension(extra, ""), extension(other+critical, ""), extension(el(6)+critical, "any"),
	}
	for i := range each {
		for _, list := range [][]string{{each[i], each[i]}, {each[i], again[i]}, {again[i], each[i]}, append(slices.Clone(each), each[i]), append(slices.Clone(each), again[i]), append([]string{again[i]}, each...)} {
			checkRefused(t, "twice", withExtensions(t, extended(list...)).raw())
		}
		x := plain(t)
		x.Usage, x.Server, x.Names, x.Extra = 128, true, []string{"a"}, true
		list := append(slices.Clone(each[i:]), each[:i]...)
		checkRead(t, "in any order", withExtensions(t, extended(list...)), x)
		slices.Reverse(list)
		checkRead(t, "in any order", withExtensions(t, extended(list...)), x)
	}
}

func TestReadExtensions(t *testing.T) {
	other := el(6, "\x2B\x06\x01\x05\x05\x07\x03\x03")
	name := func(s string) string { return el(0x82, s) }
	for _, c := range []struct {
		head, value string
		change      func(x *api.Template)
	}{
		{ca, seq(), func(x *api.Template) {}},
		{ca, seq(critical), func(x *api.Template) { x.Ca = true }},
		{ca, seq(critical, whole(0)), func(x *api.Template) { x.Ca, x.Path = true, 0 }},
		{ca, seq(critical, whole(1)), func(x *api.Template) { x.Ca, x.Path = true, 1 }},
		{ca, seq(critical, whole(127)), func(x *api.Template) { x.Ca, x.Path = true, 127 }},
		{usage, "\x03\x02\x07\x80", func(x *api.Template) { x.Usage = 128 }},
		{usage, "\x03\x02\x02\x04", func(x *api.Template) { x.Usage = 4 }},
		{usage, "\x03\x02\x00\xFF", func(x *api.Template) { x.Usage = 255 }},
		{usage, "\x03\x02\x00\x01", func(x *api.Template) { x.Usage = 1 }},
		{usage, "\x03\x02\x01\xFE", func(x *api.Template) { x.Usage = 254 }},
		{uses, seq(server), func(x *api.Template) { x.Server = true }},
		{uses, seq(client), func(x *api.Template) { x.Client = true }},
		{uses, seq(client, server), func(x *api.Template) { x.Client, x.Server = true, true }},
		{uses, seq(other), func(x *api.Template) {}},
		{uses, seq(el(6)), func(x *api.Template) {}},
		{uses, seq(other, other), func(x *api.Template) {}},
		{uses, seq(server, other, server, other), func(x *api.Template) { x.Server = true }},
		{uses, seq(other, client, client, el(6, "\x55\x1D\x25\x00")), func(x *api.Template) { x.Client = true }},
		{uses, seq(strings.Repeat(server, 20)), func(x *api.Template) { x.Server = true }},
		{names, seq(name("a")), func(x *api.Template) { x.Names = []string{"a"} }},
		{names, seq(name("b"), name("a"), name("b")), func(x *api.Template) { x.Names = []string{"b", "a", "b"} }},
		{names, seq(strings.Repeat(name("*"), 8)), func(x *api.Template) { x.Names = slices.Repeat([]string{"*"}, 8) }},
		{names, seq(name(strings.Repeat("z", 64))), func(x *api.Template) { x.Names = []string{strings.Repeat("z", 64)} }},
	} {
		for _, head := range []string{c.head, c.head + critical} {
			x := plain(t)
			c.change(&x)
			checkRead(t, "known", withExtensions(t, extended(extension(head, c.value))), x)
		}
	}
	// Others aren't looked into: they are as they like, and Extra tells that one
	// was critical.
	for _, oid := range []string{extra, el(6, "\x55\x1D\x0E"), el(6, "\x55\x1D"), el(6, "\x55\x1D\x13\x00"), el(6), el(6, strings.Repeat("\x2A", 200))} {
		for _, value := range []string{"", el(5), seq("\x01\x01\x00"), "\x01\x01\x00", "any", "\xFF\xFF\xFF\xFF", strings.Repeat("\x00", 300)} {
			x := plain(t)
			checkRead(t, "unknown", withExtensions(t, extended(extension(oid, value))), x)
			more := extension(el(6, "\x2A\x03"), "more")
			x.Extra = true
			for _, list := range [][]string{{extension(oid+critical, value)}, {extension(oid+critical, value), more}, {more, extension(oid+critical, value)}} {
				checkRead(t, "unknown", withExtensions(t, extended(list...)), x)
			}
		}
	}
}

// Up to 1024 bytes can be read.
func TestLength(t *testing.T) {
	empty := len(withExtensions(t, extended(extension(el(6, "\x2A"), strings.Repeat("a", 300)))).raw()) - 300
	for n := 1000; n < 1100; n++ {
		p := withExtensions(t, extended(extension(el(6, "\x2A"), strings.Repeat("a", n-empty))))
		if len(p.raw()) != n {
			t.Fatalf("%d bytes, not %d", len(p.raw()), n)
		}
		if n <= 1024 {
			checkRead(t, "length", p, plain(t))
		} else {
			checkRefused(t, "length", p.raw())
		}
	}
	for _, n := range []int{2000, 60000} {
		checkRefused(t, "long", withExtensions(t, extended(extension(el(6, "\x2A"), strings.Repeat("a", n)))).raw())
	}
	checkRefused(t, "very long", withExtensions(t, "").raw()+strings.Repeat("\x00", 1<<24))
}

func TestNoElements(t *testing.T) {
	for _, s := range []string{"", "\x00", "\x30", "\x30\x00", "\x30\x80", "\x30\x80\x00\x00", "\x30\x82\x01", "\x30\x84\xFF\xFF\xFF\xFF", "\x3F\x01\x00", "\x1F\x01\x00", "\x05\x00", strings.Repeat("\x30\x80", 512), strings.Repeat("\x30", 1024), strings.Repeat("\xFF", 1024), "-----BEGIN CERTIFICATE-----\n"} {
		checkRefused(t, "none", s)
	}
	deep := ""
	for len(deep) < 1000 {
		deep = seq(deep)
	}
	checkRefused(t, "deep", deep)
}

// Cut off anywhere, or with something put in anywhere, a certificate is none.
func TestCut(t *testing.T) {
	raw := partsOf(full(t), api.Ecdsa).raw()
	for n := range len(raw) {
		checkRefused(t, "cut", raw[:n])
		checkRefused(t, "begun late", raw[n+1:])
		checkRefused(t, "left out", raw[:n]+raw[n+1:])
		checkRefused(t, "put in", raw[:n]+"\x00"+raw[n:])
	}
	checkRefused(t, "more", raw+"\x00")
	checkRefused(t, "twice", raw+raw)
}

// A byte that is turned says something else, or can't be read; however it is
// it isn't what was signed.
func TestTurned(t *testing.T) {
	t.Parallel()
	for _, scheme := range []int{api.Ed25519, api.Ecdsa} {
		raw := mustMake(t, full(t), scheme, secret(7))
		key := libraryKey(t, scheme, secret(7))
		read := 0
		for i := range raw {
			for _, bit := range []byte{1, 2, 4, 8, 16, 32, 64, 128, 255} {
				b := []byte(raw)
				b[i] ^= bit
				if !checkAsWords(t, string(b)) {
					continue
				}
				read++
				if bit == 1 || bit == 128 {
					if e := mustParse(t, string(b)).Signed(scheme, key); e == api.OK {
						t.Errorf("byte %d xor %d: signed", i, bit)
					}
				}
			}
		}
		if read < 500 {
			t.Errorf("%d were read", read)
		}
	}
}

// Bytes as a template's texts are told as they are, the zero byte among those
// that may not be.
func TestEachByteOfTexts(t *testing.T) {
	x := plain(t)
	for c := range 256 {
		s := string([]byte{'a', byte(c)})
		for _, change := range []func(p *parts, y *api.Template){
			func(p *parts, y *api.Template) { p.issuer, y.Issuer = named(s), s },
			func(p *parts, y *api.Template) { p.subject, y.Subject = named(s), s },
			func(p *parts, y *api.Template) {
				p.extensions, y.Names = extended(extension(names, seq(el(0x82, s)))), []string{s}
			},
		} {
			p, y := partsOf(x, api.Ecdsa), x
			change(&p, &y)
			if textForm.MatchString(s) {
				checkRead(t, "a sign", p, y)
			} else {
				checkRefused(t, "no sign", p.raw())
			}
		}
	}
}
