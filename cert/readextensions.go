package cert

import (
	"cartouche/api"
	"cartouche/der"
)

// extensions: one or more, none of them twice, in any order.
func (x *reading) extensions(r *der.Reader, t *api.Template) {
	all := r.In(extensionsTag)
	list := all.In(der.Seq)
	seen := map[string]struct{}{}
	for list.Next(der.Seq) {
		one := list.In(der.Seq)
		oid := string(one.Take(der.Oid))
		_, twice := seen[oid]
		seen[oid] = struct{}{}
		critical := x.truth(one)
		value := one.Take(der.Octets)
		x.want(!twice && one.Done())
		x.value(t, oid, critical, der.From(value))
	}
	x.want(len(seen) > 0 && list.Done() && all.Done())
}

// value: what an extension says of a template. Those that nobody knows aren't
// looked into.
func (x *reading) value(t *api.Template, oid string, critical bool, r *der.Reader) {
	switch oid {
	case oidCa:
		t.Ca, t.Path = x.ca(r)
	case oidUsage:
		t.Usage = x.usage(r)
	case oidUses:
		t.Server, t.Client = x.uses(r)
	case oidNames:
		t.Names = x.names(r)
	default:
		t.Extra = t.Extra || critical
		return
	}
	x.want(r.Done())
}

// ca: an authority may tell a path; who is none tells nothing.
func (x *reading) ca(r *der.Reader) (bool, int) {
	in := r.In(der.Seq)
	ca, path := x.truth(in), unsaid
	if ca && !in.Done() {
		n := x.number(in)
		x.want(n <= longestPath)
		path = int(n)
	}
	x.want(in.Done())
	return ca, path
}

func (x *reading) usage(r *der.Reader) int {
	b := r.Take(der.Bits)
	if len(b) != 2 || b[1] == 0 || b[0] != leftOver(b[1]) {
		x.failed = true
		return unsaid
	}
	return int(b[1])
}

// uses: one or more, of which two are known.
func (x *reading) uses(r *der.Reader) (server, client bool) {
	in := r.In(der.Seq)
	x.want(in.Next(der.Oid))
	for in.Next(der.Oid) {
		switch string(in.Take(der.Oid)) {
		case oidServer:
			server = true
		case oidClient:
			client = true
		}
	}
	x.want(in.Done())
	return server, client
}

func (x *reading) names(r *der.Reader) []string {
	in := r.In(der.Seq)
	var names []string
	for in.Next(nameTag) {
		names = append(names, string(in.Take(nameTag)))
	}
	x.want(in.Done() && len(names) > 0 && len(names) <= api.MaxList && allTexts(names))
	return names
}
