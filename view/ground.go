package view

import (
	"slices"

	"treadle/api"
	"treadle/path"
)

// ground is the tree that a view lies over, a right one.
type ground []api.Entry

// at is what stands at a path, with that Path in any case; at a text that is no path nothing does.
func (g ground) at(p string) api.Entry {
	if p == root {
		return api.Entry{Kind: api.KindDir}
	}
	if path.Check(p) != api.OK {
		return api.Entry{Path: p}
	}
	if i, there := g.place(p); there {
		return g[i]
	}
	return api.Entry{Path: p}
}

// place is where a path stands, or would: the root ahead of all.
func (g ground) place(p string) (int, bool) {
	return slices.BinarySearchFunc(g, p, func(e api.Entry, p string) int { return rising(e.Path, p) })
}

// within are the entries right in a directory, rising.
func (g ground) within(dir string) []api.Entry {
	at, there := g.place(dir)
	if there {
		at++
	}
	var in []api.Entry
	// All that is below a directory stands together, behind it.
	for _, e := range g[at:] {
		if below, _ := path.Above(dir, e.Path); !below {
			break
		}
		if up, _, _ := path.Split(e.Path); up == dir {
			in = append(in, e)
		}
	}
	return in
}
