package tree

import (
	"iter"
	"slices"
	"strings"

	"treadle/api"
	"treadle/path"
)

// Find is what stands at a path.
func Find(t []api.Entry, p string) (api.Entry, bool) {
	if right(t) != api.OK || path.Check(p) != api.OK {
		return api.Entry{}, false
	}
	e := standing(t, p)
	return ownEntry(e), e.Kind != api.KindNone
}

// place is where a path stands in a right tree, or would.
func place(t []api.Entry, p string) (int, bool) {
	return slices.BinarySearchFunc(t, p, func(e api.Entry, p string) int {
		order, _ := path.Compare(e.Path, p)
		return order
	})
}

// standing is the entry at a path of a right tree; the zero one, if there is none.
func standing(t []api.Entry, p string) api.Entry {
	if i, there := place(t, p); there {
		return t[i]
	}
	return api.Entry{}
}

func isDirectory(t []api.Entry, p string) bool {
	return p == root || standing(t, p).Kind == api.KindDir
}

// directory is why a text is no directory of a right tree.
func directory(t []api.Entry, dir string) api.Errno {
	if e := path.Check(dir); e != api.OK {
		return e
	}
	if isDirectory(t, dir) {
		return api.OK
	}
	if standing(t, dir).Kind == api.KindNone {
		return api.ErrNone
	}
	return api.ErrFile
}

// Kids are the names of a directory.
func Kids(t []api.Entry, dir string) ([]string, api.Errno) {
	if e := right(t); e != api.OK {
		return nil, e
	}
	if e := directory(t, dir); e != api.OK {
		return nil, e
	}
	var names []string
	for name, e := range under(t, dir) {
		if parent(e.Path) == dir {
			names = append(names, strings.Clone(name))
		}
	}
	return names, api.OK
}

// Walk goes over what lies below a directory.
func Walk(t []api.Entry, dir string) iter.Seq2[string, api.Entry] {
	if right(t) != api.OK {
		t = nil
	}
	// The argument may be changed before the walk begins: it goes over entries of its own. (Below what is no directory of a right tree none lie.)
	var l []api.Entry
	for _, e := range under(t, dir) {
		l = append(l, ownEntry(e))
	}
	return under(l, dir)
}

// under goes over the entries below a directory, each with its last name.
func under(t []api.Entry, dir string) iter.Seq2[string, api.Entry] {
	lies := below(dir)
	return func(yield func(string, api.Entry) bool) {
		for _, e := range t {
			if !lies(e.Path) {
				continue
			}
			if _, name, _ := path.Split(e.Path); !yield(name, e) {
				return
			}
		}
	}
}

// below tells of paths other than the root which of them lie below a directory.
func below(dir string) func(p string) bool {
	if dir == root {
		return func(p string) bool { return true }
	}
	// The slash keeps out the names that only begin as the directory's.
	start := dir + "/"
	return func(p string) bool { return strings.HasPrefix(p, start) }
}
