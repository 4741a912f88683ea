package merkle

import (
	"strings"

	"treadle/api"
	"treadle/path"
	"treadle/tree"
)

// Prove is the proof of a path.
func Prove(t []api.Entry, p string) ([][]api.Node, api.Errno) {
	if _, e := tree.Check(t); e != api.OK {
		return nil, e
	}
	names, e := namesBelowRoot(p)
	if e != api.OK {
		return nil, e
	}
	dir := grow(standing(t, ""))
	var proof [][]api.Node
	for _, name := range names {
		proof = append(proof, dir.nodes)
		i, there := find(dir.nodes, name)
		if !there || dir.nodes[i].Kind != api.KindDir {
			break
		}
		dir = dir.kids[i]
	}
	return proof, api.OK
}

// namesBelowRoot are the names of a path that has some.
func namesBelowRoot(p string) ([]string, api.Errno) {
	names, e := path.Names(p)
	if e == api.OK && len(names) == 0 {
		return nil, api.ErrRoot
	}
	return names, e
}

// Verify is what a proof tells of a path in the tree of a digest.
func Verify(root api.Digest, p string, proof [][]api.Node) (api.Node, api.Errno) {
	names, e := namesBelowRoot(p)
	if e != api.OK {
		return api.Node{}, e
	}
	n, holds := follow(root, names, proof)
	if !holds {
		return api.Node{}, api.ErrProof
	}
	n.Name = strings.Clone(n.Name)
	return n, api.OK
}

// follow goes down a proof name by name, from the directory with that digest on, and tells the node of the last name (the zero one, if there is none), and whether the proof holds, no list more and none fewer.
func follow(dir api.Digest, names []string, proof [][]api.Node) (api.Node, bool) {
	if len(proof) == 0 {
		return api.Node{}, false
	}
	list, further := proof[0], proof[1:]
	if d, e := Dir(list...); e != api.OK || d != dir {
		return api.Node{}, false
	}
	var n api.Node
	if i, there := find(list, names[0]); there {
		n = list[i]
	}
	if len(names) == 1 {
		return n, len(further) == 0
	}
	if n.Kind != api.KindDir {
		return api.Node{}, len(further) == 0
	}
	return follow(n.Digest, names[1:], further)
}
