package merkle

import (
	"iter"
	"strings"

	"treadle/api"
	"treadle/path"
	"treadle/tree"
)

// Nodes are a directory's nodes.
func Nodes(t []api.Entry, dir string) ([]api.Node, api.Errno) {
	if _, e := tree.Kids(t, dir); e != api.OK {
		return nil, e
	}
	return grow(standing(t, dir)).nodes, api.OK
}

// Digest is a tree's digest.
func Digest(t []api.Entry) (api.Digest, api.Errno) {
	return Of(t, "")
}

// Of is the digest of what stands at a path.
func Of(t []api.Entry, p string) (api.Digest, api.Errno) {
	if _, e := tree.Check(t); e != api.OK {
		return api.Digest{}, e
	}
	if e := path.Check(p); e != api.OK {
		return api.Digest{}, e
	}
	e, below := standing(t, p)
	if e.Kind == api.KindNone {
		return api.Digest{}, api.ErrNone
	}
	return grow(e, below).digest, api.OK
}

// standing is what stands at a path of a right tree, and what lies below it; the zero entry, if there is nothing.
func standing(t []api.Entry, p string) (api.Entry, []api.Entry) {
	if p == "" {
		// The root is a directory without an entry.
		return api.Entry{Kind: api.KindDir}, t
	}
	for i, e := range t {
		if e.Path == p {
			return e, lyingBelow(p, t[i+1:])
		}
	}
	return api.Entry{}, nil
}

// lyingBelow are the first of the entries behind a path, those that lie below it: in a right tree they stand together.
func lyingBelow(p string, behind []api.Entry) []api.Entry {
	start := p + "/"
	n := 0
	for n < len(behind) && strings.HasPrefix(behind[n].Path, start) {
		n++
	}
	return behind[:n]
}

// parts goes over what stands right in a directory, of all that lies below it: each with what lies below that.
func parts(below []api.Entry) iter.Seq2[api.Entry, []api.Entry] {
	return func(yield func(api.Entry, []api.Entry) bool) {
		for rest := below; len(rest) > 0; {
			e := rest[0]
			inner := lyingBelow(e.Path, rest[1:])
			if !yield(e, inner) {
				return
			}
			rest = rest[1+len(inner):]
		}
	}
}

// branch is what an entry comes to: its digest; of a directory its nodes, too, and in the same order their branches, so that nothing is hashed twice.
type branch struct {
	digest api.Digest
	nodes  []api.Node
	kids   []branch
}

// grow is the branch of an entry of a right tree.
func grow(e api.Entry, below []api.Entry) branch {
	if e.Kind != api.KindDir {
		return branch{digest: leafDigest(e)}
	}
	var b branch
	for part, inner := range parts(below) {
		kid := grow(part, inner)
		b.nodes = append(b.nodes, api.Node{Name: lastName(part.Path), Kind: part.Kind, Digest: kid.digest})
		b.kids = append(b.kids, kid)
	}
	// In a right tree what lies in one directory rises by names, so that Dir takes it.
	b.digest, _ = Dir(b.nodes...)
	return b
}

// lastName is a text of its own: a node must not hold the argument's path.
func lastName(p string) string {
	_, name, _ := path.Split(p)
	return strings.Clone(name)
}
