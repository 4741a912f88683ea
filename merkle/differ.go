package merkle

import (
	"treadle/api"
	"treadle/tree"
)

// Differ are the paths at which two trees part, and how many directories part.
func Differ(a, b []api.Entry) ([]string, int, api.Errno) {
	changes, e := tree.Diff(a, b)
	if e != api.OK {
		return nil, 0, e
	}
	var paths []string
	for _, c := range changes {
		paths = append(paths, c.Path)
	}
	x, y := grow(standing(a, "")), grow(standing(b, ""))
	if x.digest == y.digest {
		return paths, 0, api.OK
	}
	return paths, parting(x, y), api.OK
}

// parting is how many paths, from that of two directories on, have a directory on both sides, and unlike digests of it.
func parting(x, y branch) int {
	n := 0
	if x.digest != y.digest {
		n = 1
	}
	for i, node := range x.nodes {
		j, there := find(y.nodes, node.Name)
		if there && node.Kind == api.KindDir && y.nodes[j].Kind == api.KindDir {
			n += parting(x.kids[i], y.kids[j])
		}
	}
	return n
}
