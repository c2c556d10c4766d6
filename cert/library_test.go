package cert_test

import (
	"crypto/ecdsa"
	"crypto/ed25519"
	"crypto/x509"
	"math/big"
	"math/bits"
	"slices"
	"testing"

	"cartouche/api"
	"cartouche/cert"
)

// Certificates that OpenSSL 3.0 made, by two keys: an authority of Ed25519 and a
// leaf of P-256 that it signed, an authority of P-256 and a leaf of Ed25519 that
// it signed; and one of the first version, which has no extensions.
const opensslRoot = "3082011F3081D2A003020102020900FFFFFFFFFFFFFFFE300506032B65703011310F300D06035504030C06526F6F742D313020170D3730303130313030303030" +
	"305A180F32303530303130313030303030305A3011310F300D06035504030C06526F6F742D31302A300506032B6570032100F7451C4F282A151F72F05B4E1F64" +
	"C15F680F606C3076B42C7BEE801CB2E4B03AA345304330120603551D130101FF040830060101FF020101300E0603551D0F0101FF040403020284301D0603551D" +
	"0E041604147F1B87A176987468166DC58A12CB404BD31B13DC300506032B657003410019F6DCB8DECF506F9F0985B5D10130FC20E7C5EBF504CFCF5E2A91A77E" +
	"58383CF054AFE6C9928520498A6762DA303225E00ACDB7C145BD8B97E0D75D1DB75907"

const opensslLeaf = "308201A030820152A0030201020202012C300506032B65703011310F300D06035504030C06526F6F742D31301E170D3939313233313233353935395A170D3439" +
	"313233313233353935395A3011310F300D06035504030C066C6561662E783059301306072A8648CE3D020106082A8648CE3D03010703420004DB5B2F878AA196" +
	"2F438DBC3919F4CA6AE4670632E3362788137DC9EB2EF16F8E6AD890246438EA808E966B909A3BCDEE357D88D269D0C72599A62BD410E5ACCFA3819E30819B30" +
	"150603551D11040E300C8203612E6282052A2E432E6430270603551D250420301E06082B0601050507030106082B0601050507030206082B0601050507030330" +
	"0B0603551D0F040403020780300C0603551D130101FF04023000301D0603551D0E04160414480CC0F0C422DB025084292C2A40B8A51B9CA95C301F0603551D23" +
	"0418301680147F1B87A176987468166DC58A12CB404BD31B13DC300506032B6570034100A5EE96E3C0D78208DBB7C4C44578625E0DA1A20D3F034CD2A2DDC9D6" +
	"9685E505D57B90CC0D9BA163C6EB19A2206C06DBA6CDC3FF7724FCCBCBB91840709A4505"

const opensslOther = "308201413081E8A003020102020101300A06082A8648CE3D0403023011310F300D06035504030C06526F6F742D313020170D3230303232393030303030305A18" +
	"0F39393939313233313233353935395A3011310F300D06035504030C06526F6F742D313059301306072A8648CE3D020106082A8648CE3D03010703420004DB5B" +
	"2F878AA1962F438DBC3919F4CA6AE4670632E3362788137DC9EB2EF16F8E6AD890246438EA808E966B909A3BCDEE357D88D269D0C72599A62BD410E5ACCFA32F" +
	"302D300C0603551D13040530030101FF301D0603551D0E04160414480CC0F0C422DB025084292C2A40B8A51B9CA95C300A06082A8648CE3D0403020348003045" +
	"022100ED7CE784C00FD687A0CC2CAAD369B00BCEB73411437DAE38393B517B9C415C4802204A553211CEFB8EAA73E39E4B23E0666066DA41A7C773724A03D42F" +
	"0640641A92"

const opensslBelow = "308201323081D9A00302010202017F300A06082A8648CE3D0403023011310F300D06035504030C06526F6F742D31301E170D3230303130313030303030305A17" +
	"0D3330303130313030303030305A3011310F300D06035504030C066C6561662E78302A300506032B6570032100F7451C4F282A151F72F05B4E1F64C15F680F60" +
	"6C3076B42C7BEE801CB2E4B03AA351304F300D06042B06017F0101FF04020500301D0603551D0E041604147F1B87A176987468166DC58A12CB404BD31B13DC30" +
	"1F0603551D23041830168014480CC0F0C422DB025084292C2A40B8A51B9CA95C300A06082A8648CE3D040302034800304502202790CC69BC4866B32FB4E5D920" +
	"9A0F19EFC615D6CD3F5957DBACAA1329A15D83022100C3C776F36D544CE550C0DE2FB80E8A03B00C7847009688183CFBBFD7F80C0107"

const opensslFirst = "308201073081AE02020080300A06082A8648CE3D0403023011310F300D06035504030C06526F6F742D31301E170D3230303130313030303030305A170D333030" +
	"3130313030303030305A300E310C300A06035504030C036D69643059301306072A8648CE3D020106082A8648CE3D03010703420004DB5B2F878AA1962F438DBC" +
	"3919F4CA6AE4670632E3362788137DC9EB2EF16F8E6AD890246438EA808E966B909A3BCDEE357D88D269D0C72599A62BD410E5ACCF300A06082A8648CE3D0403" +
	"0203480030450220317CFDD3E293052F3027AB6FD067EC5CA1172A93ACAAA0EF98B21002D29EE69C022100E2B7688E8BFF0A12C5FBB266B70C8664DA23062569" +
	"03403D6A37B1C869422001"

func TestOpenssl(t *testing.T) {
	root, leaf := mustParse(t, bin(t, opensslRoot)), mustParse(t, bin(t, opensslLeaf))
	other, below := mustParse(t, bin(t, opensslOther)), mustParse(t, bin(t, opensslBelow))
	for _, c := range []struct {
		got, issuer cert.Cert
		want        api.Template
	}{
		{root, root, api.Template{Serial: 0xFFFFFFFFFFFFFFFE, Issuer: "Root-1", Subject: "Root-1", To: 2524608000, Scheme: api.Ed25519, Key: below.T.Key, Ca: true, Path: 1, Usage: 0x84}},
		{leaf, root, api.Template{Serial: 300, Issuer: "Root-1", Subject: "leaf.x", From: 946684799, To: 2524607999, Scheme: api.Ecdsa, Key: other.T.Key, Names: []string{"a.b", "*.C.d"}, Path: -1, Usage: 0x80, Client: true, Server: true}},
		{other, other, api.Template{Serial: 1, Issuer: "Root-1", Subject: "Root-1", From: 1582934400, To: lastSecond, Scheme: api.Ecdsa, Key: leaf.T.Key, Ca: true, Path: -1, Usage: -1}},
		{below, other, api.Template{Serial: 127, Issuer: "Root-1", Subject: "leaf.x", From: 1577836800, To: 1893456000, Scheme: api.Ed25519, Key: root.T.Key, Path: -1, Usage: -1, Extra: true}},
	} {
		if !same(c.got.T, c.want) {
			t.Errorf("%#v, not %#v", c.got.T, c.want)
		}
		for _, issuer := range []cert.Cert{root, other} {
			want := api.OK
			if issuer.T.Scheme != c.issuer.T.Scheme {
				want = api.ErrSign
			}
			checkSigned(t, c.got, issuer.T.Scheme, issuer.T.Key, want)
		}
	}
	if !leaf.For("A.B") || !leaf.For("x.c.D") || leaf.For("leaf.x") || below.For("leaf.x") {
		t.Error("names")
	}
	checkRefused(t, "of the first version", bin(t, opensslFirst))
}

// What is made is what Go's library reads, and takes for signed.
func TestMadeAsLibrary(t *testing.T) {
	t.Parallel()
	checked := 0
	for i, x := range templates(t) {
		if slices.ContainsFunc(x.Names, func(s string) bool { return len(s) < 3 || len(s) > 60 }) {
			continue // The library asks for hosts' names there.
		}
		scheme := []int{api.Ed25519, api.Ecdsa}[i/2%2]
		issuer := plain(t)
		issuer.Scheme, issuer.Key = scheme, libraryKey(t, scheme, secret(7))
		issuer.Ca = true
		above, err := x509.ParseCertificate([]byte(mustMake(t, issuer, scheme, secret(7))))
		if err != nil {
			t.Fatal(err)
		}
		c, err := x509.ParseCertificate([]byte(mustMake(t, x, scheme, secret(7))))
		if err != nil {
			t.Fatalf("%#v: %v", x, err)
		}
		if err := above.CheckSignature(c.SignatureAlgorithm, c.RawTBSCertificate, c.Signature); err != nil {
			t.Errorf("%#v: %v", x, err)
		}
		checkLibrary(t, c, x)
		checked++
	}
	if checked < 100 {
		t.Errorf("%d were checked", checked)
	}
}

func checkLibrary(t *testing.T, c *x509.Certificate, x api.Template) {
	t.Helper()
	var key string
	switch k := c.PublicKey.(type) {
	case ed25519.PublicKey:
		key = string(k)
	case *ecdsa.PublicKey:
		b, err := k.Bytes()
		if err != nil {
			t.Fatal(err)
		}
		key = string(b)
	}
	usage := 0
	if x.Usage > 0 {
		usage = int(bits.Reverse8(uint8(x.Usage)))
	}
	var uses []x509.ExtKeyUsage
	if x.Server {
		uses = append(uses, x509.ExtKeyUsageServerAuth)
	}
	if x.Client {
		uses = append(uses, x509.ExtKeyUsageClientAuth)
	}
	if c.Version != 3 || c.SerialNumber.Cmp(new(big.Int).SetUint64(x.Serial)) != 0 || c.Issuer.CommonName != x.Issuer || c.Subject.CommonName != x.Subject ||
		len(c.Issuer.Names) != 1 || len(c.Subject.Names) != 1 || uint64(c.NotBefore.Unix()) != x.From || uint64(c.NotAfter.Unix()) != x.To {
		t.Errorf("%+v, not %#v", c, x)
	}
	if key != x.Key || !slices.Equal(c.DNSNames, x.Names) || c.IsCA != x.Ca || c.BasicConstraintsValid != x.Ca || x.Ca && c.MaxPathLen != x.Path || int(c.KeyUsage) != usage ||
		!slices.Equal(c.ExtKeyUsage, uses) || len(c.UnknownExtKeyUsage) != 0 || (len(c.UnhandledCriticalExtensions) == 1) != x.Extra {
		t.Errorf("%+v, not %#v", c, x)
	}
}
