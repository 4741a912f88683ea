package view

import (
	"maps"
	"slices"
	"strings"

	"treadle/api"
	"treadle/path"
)

// overlay is what was written, made and removed: by path an entry, of KindNone where something of the tree was removed.
type overlay struct{ marks map[string]api.Entry }

func newOverlay() overlay { return overlay{map[string]api.Entry{}} }

// says is what stands at a path, if the overlay has anything to say of it.
func (o *overlay) says(p string) (api.Entry, bool) {
	e, says := o.marks[p]
	return e, says
}

// put lets an entry stand at its path, unless that were too much.
func (o *overlay) put(e api.Entry) api.Errno {
	old, says := o.says(e.Path)
	if !says && len(o.marks) >= api.MaxEntries {
		return api.ErrMany
	}
	if o.bytes()-len(old.Data)+len(e.Data) > api.MaxTree {
		return api.ErrBig
	}
	own := ownEntry(e)
	o.marks[own.Path] = own
	return api.OK
}

// drop leaves it to the tree what stands at a path.
func (o *overlay) drop(p string) { delete(o.marks, p) }

// bytes is how many its files have together.
func (o *overlay) bytes() int {
	n := 0
	for _, e := range o.marks {
		n += len(e.Data)
	}
	return n
}

// within are the names of what it has right in a directory, in any order.
func (o *overlay) within(dir string) []string {
	var names []string
	for p, e := range o.marks {
		if up, name, _ := path.Split(p); up == dir && e.Kind != api.KindNone {
			names = append(names, name)
		}
	}
	return names
}

// outputs are its files and directories, rising.
func (o *overlay) outputs() []api.Entry {
	var l []api.Entry
	for _, p := range slices.SortedFunc(maps.Keys(o.marks), rising) {
		if e := o.marks[p]; e.Kind != api.KindNone {
			l = append(l, ownEntry(e))
		}
	}
	return l
}

// removed are the paths at which the tree has something and nothing stands, rising.
func (o *overlay) removed() []string {
	var l []string
	for _, p := range slices.SortedFunc(maps.Keys(o.marks), rising) {
		if o.marks[p].Kind == api.KindNone {
			l = append(l, strings.Clone(p))
		}
	}
	return l
}

func (o *overlay) copied() overlay { return overlay{maps.Clone(o.marks)} }

// ownEntry has texts of its own: what is handed in is not kept, and what is kept is not handed out.
func ownEntry(e api.Entry) api.Entry {
	return api.Entry{Path: strings.Clone(e.Path), Kind: e.Kind, Data: strings.Clone(e.Data)}
}
