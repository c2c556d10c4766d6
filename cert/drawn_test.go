package cert_test

import (
	"math/rand/v2"
	"slices"
	"strings"
	"testing"

	"cartouche/api"
)

// A node is an element of a certificate that is changed: what it holds are
// nodes, if it has some (an extension's value too), else bytes.
type node struct {
	tag  byte
	in   string
	kids []*node
}

// grown: the nodes of elements; none, if these aren't all elements.
func grown(s string) []*node {
	var list []*node
	for s != "" {
		tag, in, behind, ok := cutElement(s)
		if !ok {
			return nil
		}
		x := &node{tag: tag, in: in}
		if tag&0x20 != 0 || tag == 4 {
			x.kids = grown(in)
		}
		list = append(list, x)
		s = behind
	}
	return list
}

func written(list []*node) string {
	var all strings.Builder
	for _, x := range list {
		all.WriteString(el(x.tag, x.holds()))
	}
	return all.String()
}

func (x *node) holds() string {
	if len(x.kids) > 0 {
		return written(x.kids)
	}
	return x.in
}

// places: all lists of nodes.
func places(list *[]*node) []*[]*node {
	all := []*[]*node{list}
	for _, x := range *list {
		if len(x.kids) > 0 {
			all = append(all, places(&x.kids)...)
		}
	}
	return all
}

// pool: elements that stand somewhere in certificates, or nearly so.
func pool() []string {
	name := el(0x82, "x.y")
	return []string{
		critical, "\x01\x01\x00", whole(0), whole(2), whole(5), whole(127), whole(128), el(2, "\xFF"), el(5), server, client, extra, name, el(0x82, "a b"), seq(), seq(name), seq(server), seq(critical), seq(critical, whole(3)), seq(whole(3)),
		"\x03\x02\x07\x80", "\x03\x02\x02\x84", "\x03\x02\x06\x80", el(3, "\x00"), el(4, seq()), ca, usage, uses, names, named("x"), named("x y"), at(0), at(1<<31 - 1), at(1 << 32), el(0x18, "20000101000000Z"), algorithmOfEd25519, algorithmOfEcdsa, kindOfP256,
		extension(ca, seq()), extension(ca+critical, seq(critical)), extension(usage, "\x03\x02\x02\x04"), extension(uses+critical, seq(client)), extension(names, seq(name)), extension(extra, ""), extension(extra+critical, el(5)), extension(el(6, "\x55\x1D\x0E"), "any"), extension(el(6, "\x2A")+critical, "any"),
	}
}

// change: one of what may be done to a list of nodes at a place in it.
func change(r *rand.Rand, list *[]*node, some []string) {
	l := *list
	if len(l) == 0 {
		return
	}
	i, j := r.IntN(len(l)), r.IntN(len(l))
	x := *l[i]
	switch r.IntN(9) {
	case 0:
		*list = slices.Delete(slices.Clone(l), i, i+1)
	case 1:
		*list = slices.Insert(slices.Clone(l), j, &x)
	case 2:
		l[i], l[j] = l[j], l[i]
	case 3:
		x.tag = []byte{1, 2, 3, 4, 5, 6, 0x0C, 0x13, 0x17, 0x18, 0x30, 0x31, 0x82, 0xA0, 0xA3}[r.IntN(15)]
		l[i] = &x
	case 4, 5:
		l[i] = &node{tag: x.tag, in: turned(r, x.holds())}
	case 6, 7:
		*list = slices.Insert(slices.Clone(l), j, grown(some[r.IntN(len(some))])...)
	case 8:
		*list = slices.Replace(slices.Clone(l), i, i+1, grown(some[r.IntN(len(some))])...)
	}
}

// turned: bytes of which one is another one, is left out, or put in.
func turned(r *rand.Rand, s string) string {
	if s == "" {
		return string([]byte{byte(r.IntN(256))})
	}
	i := r.IntN(len(s))
	b := []byte(s)
	switch r.IntN(4) {
	case 0:
		b[i] = byte(r.IntN(256))
	case 1:
		b[i] += byte(r.IntN(3)) - 1
	case 2:
		b = slices.Delete(b, i, i+1)
	case 3:
		b = slices.Insert(b, i, byte(r.IntN(256)))
	}
	return string(b)
}

// Drawn changes of certificates, that stay elements: each is read, or isn't, as
// the patterns say.
func TestDrawnChanges(t *testing.T) {
	list, some := templates(t), pool()
	for part := range uint64(8) {
		t.Run("", func(t *testing.T) {
			t.Parallel()
			r := rand.New(rand.NewPCG(part, 14))
			read, extended := 0, 0
			const rounds = 10000
			for range rounds {
				raw := partsOf(list[r.IntN(len(list))], []int{api.Ed25519, api.Ecdsa}[r.IntN(2)]).raw()
				tree := grown(raw)
				for range 1 + r.IntN(4)/3 {
					all := places(&tree)
					// Extensions stand far behind, and are what varies most.
					at := max(r.IntN(len(all)), r.IntN(len(all)))
					change(r, all[at], some)
				}
				if s := written(tree); s != raw && checkAsWords(t, s) {
					read++
					if strings.Contains(s, "\x55\x1D") {
						extended++
					}
				}
			}
			if read < rounds/20 || read > rounds/2 || extended < rounds/40 {
				t.Errorf("%d of %d were read, %d with extensions", read, rounds, extended)
			}
		})
	}
}
