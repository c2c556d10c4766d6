package cert

import (
	"strings"

	"cartouche/api"
)

// signs are those of which texts are made.
const signs = "ABCDEFGHIJKLMNOPQRSTUVWXYZabcdefghijklmnopqrstuvwxyz0123456789.-*"

// Text: may a text stand as a name: 1 to 64 letters, digits, dots, - and *?
func Text(s string) bool {
	return s != "" && len(s) <= api.MaxName && strings.TrimLeft(s, signs) == ""
}

// Fits: is a pattern for a name: the same, letters of both cases being alike, or * in the place of its first part?
func Fits(pattern, name string) bool {
	if !Text(name) || strings.Contains(name, "*") {
		return false
	}
	if !strings.Contains(pattern, "*") {
		return alike(pattern, name)
	}
	// No name has a *: a rest that has one is no name's.
	rest, ok := strings.CutPrefix(pattern, "*.")
	first, behind, dotted := strings.Cut(name, ".")
	return ok && dotted && first != "" && strings.Contains(rest, ".") && alike(rest, behind)
}

// alike: are two texts the same, but for their letters' cases? The library takes
// some signs beyond these letters for the same, too.
func alike(a, b string) bool {
	if len(a) != len(b) {
		return false
	}
	for i := range len(a) {
		if small(a[i]) != small(b[i]) {
			return false
		}
	}
	return true
}

func small(c byte) byte {
	if c >= 'A' && c <= 'Z' {
		return c - 'A' + 'a'
	}
	return c
}
