package merkle

import (
	"slices"
	"strings"

	"treadle/api"
	"treadle/path"
	"treadle/sha"
	"treadle/tree"
	"treadle/wire"
)

// Leaf is the digest of a file or a link.
func Leaf(e api.Entry) (api.Digest, api.Errno) {
	// Of one entry alone Check may tell that its directory is missing, too: that is nothing to a leaf.
	if _, why := tree.Check([]api.Entry{e}); why == api.ErrKind || e.Kind == api.KindDir {
		return api.Digest{}, api.ErrKind
	}
	return leafDigest(e), api.OK
}

// leafDigest takes a file or a link for granted.
func leafDigest(e api.Entry) api.Digest {
	if e.Kind == api.KindLink {
		return digestFor("link", []byte(e.Data))
	}
	return digestFor("file", []byte(e.Data))
}

// digestFor takes a right tag for granted.
func digestFor(tag string, b []byte) api.Digest {
	d, _ := sha.Tagged(tag, b)
	return d
}

// Pack are nodes' bytes.
func Pack(nodes ...api.Node) ([]byte, api.Errno) {
	if !areOfDirectory(nodes) {
		return nil, api.ErrOrder
	}
	var out []byte
	for _, n := range nodes {
		out = append(out, wire.PutText(nil, n.Name)...)
		out = append(out, byte(n.Kind))
		out = append(out, n.Digest[:]...)
	}
	return out, api.OK
}

// areOfDirectory tells whether nodes may lie in one directory, as they come.
func areOfDirectory(nodes []api.Node) bool {
	last := "" // it comes ahead of every name
	for _, n := range nodes {
		if path.Name(n.Name) != api.OK || !isKind(n.Kind) || n.Name <= last {
			return false
		}
		last = n.Name
	}
	return true
}

func isKind(k int) bool {
	return k == api.KindFile || k == api.KindDir || k == api.KindLink
}

// Dir is the digest of a directory with these nodes.
func Dir(nodes ...api.Node) (api.Digest, api.Errno) {
	b, e := Pack(nodes...)
	if e != api.OK {
		return api.Digest{}, e
	}
	return digestFor("dir", b), api.OK
}

// find is the place of a name among rising nodes, and whether it is there.
func find(nodes []api.Node, name string) (int, bool) {
	return slices.BinarySearchFunc(nodes, name, func(n api.Node, name string) int {
		return strings.Compare(n.Name, name)
	})
}
