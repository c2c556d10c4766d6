package cert_test

import (
	"slices"
	"strings"
	"testing"

	"cartouche/api"
	"cartouche/cert"
)

// fitsByWords: the chapter's words, for signs of one byte.
func fitsByWords(pattern, name string) bool {
	if !textForm.MatchString(name) || strings.Contains(name, "*") {
		return false
	}
	if !strings.Contains(pattern, "*") && lower(pattern) == lower(name) {
		return true
	}
	rest, ok := strings.CutPrefix(pattern, "*.")
	if !ok || !strings.Contains(rest, ".") || strings.Contains(rest, "*") {
		return false
	}
	for i := 1; i < len(name); i++ {
		if !strings.Contains(name[:i], ".") && lower(name[i:]) == lower("."+rest) {
			return true
		}
	}
	return false
}

// lower: letters A to Z alone have another case.
func lower(s string) string {
	return strings.Map(func(r rune) rune {
		if i := strings.IndexRune("ABCDEFGHIJKLMNOPQRSTUVWXYZ", r); i >= 0 {
			return rune('a' + i)
		}
		return r
	}, s)
}

// texts: all of up to so many of some signs, the empty one too.
func texts(signs string, most int) []string {
	all := []string{""}
	begin := 0
	for range most {
		end := len(all)
		for _, s := range all[begin:end] {
			for _, c := range []byte(signs) {
				all = append(all, s+string([]byte{c}))
			}
		}
		begin = end
	}
	return all
}

func TestFitsAsTheWords(t *testing.T) {
	t.Parallel()
	for _, c := range []struct {
		signs string
		most  int
	}{{"aA.*", 5}, {"a.*-_", 4}} {
		all := texts(c.signs, c.most)
		for _, pattern := range all {
			for _, name := range all {
				if want := fitsByWords(pattern, name); cert.Fits(pattern, name) != want {
					t.Fatalf("Fits(%q, %q): %t", pattern, name, !want)
				}
			}
		}
	}
	// Longer ones, of which some fit.
	count := 0
	for _, behind := range texts("a.", 5) {
		for _, name := range texts("Ab.", 6) {
			want := fitsByWords("*."+behind, name)
			if cert.Fits("*."+behind, name) != want {
				t.Fatalf("Fits(*.%s, %q): %t", behind, name, !want)
			}
			if want {
				count++
			}
		}
	}
	if count < 50 {
		t.Errorf("%d fit", count)
	}
}

func TestFits(t *testing.T) {
	long := strings.Repeat("a", 62)
	for _, c := range []struct {
		pattern, name string
		want          bool
	}{
		{"*.a.b", "X.a.B", true},
		{"*.A.b", "x.a.B", true},
		{"a.b", "x.y.a.b", false},
		{"*.a.b", "x.y.a.b", false},
		{"*.a.b", "a.b", false},
		{"*.a.b", ".a.b", false},
		{"*.a.b", "*.a.b", false},
		{"*.a.b", "x.a.b.", false},
		{"*.a.b", "x.a.bc", false},
		{"*.a.b", "x.a.c", false},
		{"*.a.b", "xa.b", false},
		{"*.a.b", "xyz-0.a.b", true},
		{"*.b", "a.b", false},
		{"*.", "a.", false},
		{"*", "a", false},
		{"*", "*", false},
		{"*.*.b", "x.y.b", false},
		{"*.a.*", "x.a.b", false},
		{"x.*.b", "x.y.b", false},
		{"x*.a.b", "xy.a.b", false},
		{"*x.a.b", "yx.a.b", false},
		{"a.*", "a.b", false},
		{"*..b", "x..b", true},
		{"*.b.", "x.b.", true},
		{"*..", "x..", true},
		{"A-1.b", "a-1.B", true},
		{"a", "A", true},
		{"a", "a.", false},
		{"a.", "a", false},
		{"", "", false},
		{"", "a", false},
		{"a", "", false},
		{"a b", "a b", false},
		{"a_b", "a_b", false},
		{"*.a_b.c", "x.a_b.c", false},
		// Signs that the library takes for the letters k and s, and signs 32 apart.
		{"\u212A", "k", false},
		{"*.\u212A.b", "x.k.b", false},
		{"\u017F", "s", false},
		{"k", "\u212A", false},
		{"\x0D", "-", false},
		{"@", "`", false},
		{"[", "{", false},
		{"\x10", "0", false},
		{"\x0E", ".", false},
		{"a\x0Eb", "a.b", false},
		// Names of 64 signs are the longest.
		{long + "aa", long + "AA", true},
		{long + "aaa", long + "aaa", false},
		{"*." + long[:60] + ".b", "a." + long[:60] + ".b", true},
		{"*." + long[:60] + ".b", "aa." + long[:60] + ".b", false},
		{strings.Repeat("*.", 1<<16) + "a.b", "x.a.b", false},
		{strings.Repeat("a", 1<<16), "a", false},
	} {
		if cert.Fits(c.pattern, c.name) != c.want {
			t.Errorf("Fits(%.80q, %.80q): %t", c.pattern, c.name, !c.want)
		}
	}
}

// Letters, and nothing else, are alike in both cases.
func TestFitsEachSign(t *testing.T) {
	for a := range 256 {
		for b := range 256 {
			x, y := string([]byte{byte(a)}), string([]byte{byte(b)})
			want := cert.Text(y) && y != "*" && (a == b || a^b == 32 && (a|32 >= 'a' && a|32 <= 'z'))
			if cert.Fits(x, y) != want || cert.Fits("*."+x+".c", "d."+y+".C") != want {
				t.Fatalf("Fits(%q, %q): %t", x, y, !want)
			}
		}
	}
}

func TestFor(t *testing.T) {
	var c cert.Cert
	if c.For("a") || c.For("") {
		t.Error("no names")
	}
	x := full(t)
	x.Names = []string{"a.b", "*.c.d", "e"}
	c = mustParse(t, mustMake(t, x, x.Scheme, secret(1)))
	for _, name := range []string{"a.b", "A.B", "x.c.d", "e", "y.C.D"} {
		if !c.For(name) {
			t.Errorf("For(%q): false", name)
		}
	}
	for _, name := range []string{"", "b", "a", "a.b.", "x.a.b", "c.d", "*.c.d", "x.y.c.d", "leaf", "root", "*", "e.", "a.b,e"} {
		if c.For(name) {
			t.Errorf("For(%q)", name)
		}
	}
	// The subject isn't one of those it is for.
	c = mustParse(t, mustMake(t, plain(t), api.Ed25519, secret(1)))
	if c.For("leaf") || !slices.Equal(c.T.Names, nil) {
		t.Error(c.T.Names)
	}
}
