package tree

import (
	"slices"

	"treadle/api"
	"treadle/path"
)

// Put is a tree with an entry more, or another one.
func Put(t []api.Entry, e api.Entry) ([]api.Entry, api.Errno) {
	if why := right(t); why != api.OK {
		return nil, why
	}
	if !mayBe(e) {
		return nil, api.ErrKind
	}
	if !isDirectory(t, parent(e.Path)) {
		return nil, api.ErrParent
	}
	i, there := place(t, e.Path)
	behind := t[i:]
	if there {
		if (t[i].Kind == api.KindDir) != (e.Kind == api.KindDir) {
			return nil, api.ErrThere
		}
		behind = t[i+1:]
	}
	return fit(slices.Concat(t[:i], []api.Entry{e}, behind))
}

// Remove is a tree without a path and all below it.
func Remove(t []api.Entry, p string) ([]api.Entry, api.Errno) {
	if e := right(t); e != api.OK {
		return nil, e
	}
	if e := path.Check(p); e != api.OK {
		return nil, e
	}
	if _, there := place(t, p); !there {
		return nil, api.ErrNone
	}
	lies := below(p)
	var left []api.Entry
	for _, e := range t {
		if e.Path != p && !lies(e.Path) {
			left = append(left, e)
		}
	}
	return own(left), api.OK
}

// Sub is what lies below a directory, as a tree.
func Sub(t []api.Entry, dir string) ([]api.Entry, api.Errno) {
	if e := right(t); e != api.OK {
		return nil, e
	}
	if e := directory(t, dir); e != api.OK {
		return nil, e
	}
	var s []api.Entry
	for _, e := range under(t, dir) {
		e.Path, _ = path.Rel(dir, e.Path)
		s = append(s, e)
	}
	return own(s), api.OK
}

// Graft is a tree with another one in the place of a directory.
func Graft(t []api.Entry, dir string, s []api.Entry) ([]api.Entry, api.Errno) {
	if e := right(t, s); e != api.OK {
		return nil, e
	}
	if e := directory(t, dir); e != api.OK {
		return nil, e
	}
	moved, e := moveInto(dir, s)
	if e != api.OK {
		return nil, e
	}
	return fit(replaceBelow(t, dir, moved))
}

// moveInto are entries with a directory's names ahead of their paths.
func moveInto(dir string, s []api.Entry) ([]api.Entry, api.Errno) {
	moved := slices.Clone(s)
	for i := range moved {
		var e api.Errno
		if moved[i].Path, e = path.Join(dir, moved[i].Path); e != api.OK {
			return nil, e
		}
	}
	return moved, api.OK
}

// replaceBelow lays entries right behind their directory, where what lies below it has its place.
func replaceBelow(t []api.Entry, dir string, moved []api.Entry) []api.Entry {
	if dir == root {
		return moved
	}
	lies := below(dir)
	var next []api.Entry
	for _, e := range t {
		if !lies(e.Path) {
			next = append(next, e)
		}
		if e.Path == dir {
			next = append(next, moved...)
		}
	}
	return next
}
