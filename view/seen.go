package view

import (
	"maps"
	"slices"
	"strings"

	"treadle/api"
	"treadle/sha"
	"treadle/tree"
)

// look is what stands at a path other than the root; what the tree must be asked for is learnt.
func (v *View) look(p string) api.Entry {
	if e, says := v.says(p); says {
		return e
	}
	e := v.ground.at(p)
	// The tree stays as it is, so that a look at a path of which something was learnt has nothing to add.
	if _, known := v.seen[p]; !known {
		v.learn(p, glance(e))
	}
	return e
}

// glance is what a look at an entry of the tree teaches.
func glance(e api.Entry) api.Seen {
	switch e.Kind {
	case api.KindFile:
		return api.Seen{What: api.SeenKind, Kind: api.KindFile}
	case api.KindDir:
		return api.Seen{What: api.SeenDir, Kind: api.KindDir}
	case api.KindLink:
		return api.Seen{What: api.SeenLink, Kind: api.KindLink, Digest: textDigest(e.Data)}
	}
	return api.Seen{What: api.SeenNothing, Kind: api.KindNone}
}

// read learns the bytes of a file, if it is the tree's.
func (v *View) read(e api.Entry) {
	if _, says := v.says(e.Path); says || v.seen[e.Path].What == api.SeenFile {
		return
	}
	v.learn(e.Path, api.Seen{What: api.SeenFile, Kind: api.KindFile, Digest: textDigest(e.Data)})
}

// list learns the names of a directory, if it is the tree's.
func (v *View) list(dir string) {
	if _, says := v.says(dir); says || v.seen[dir].Digest != (api.Digest{}) {
		return
	}
	v.learn(dir, api.Seen{What: api.SeenDir, Kind: api.KindDir, Digest: v.ground.namesDigest(dir)})
}

// learn keeps a path of its own: the one it is told may be a piece of an argument.
func (v *View) learn(p string, s api.Seen) {
	s.Path = strings.Clone(p)
	v.seen[s.Path] = s
}

// Seen is what was learnt of the tree.
func (v *View) Seen() []api.Seen {
	if !v.made() {
		return nil
	}
	var l []api.Seen
	for _, p := range slices.SortedFunc(maps.Keys(v.seen), rising) {
		s := v.seen[p]
		s.Path = strings.Clone(p)
		l = append(l, s)
	}
	return l
}

// Holds tells whether all of that is so in a tree.
func Holds(t []api.Entry, l ...api.Seen) bool {
	if _, e := tree.Check(t); e != api.OK {
		return false
	}
	for _, s := range l {
		if !ground(t).bears(s) {
			return false
		}
	}
	return true
}

// bears tells whether what was learnt of another tree is so here, too.
func (g ground) bears(s api.Seen) bool {
	e := g.at(s.Path)
	switch s.What {
	case api.SeenNothing:
		return e.Kind == api.KindNone
	case api.SeenKind:
		return e.Kind != api.KindNone && e.Kind == s.Kind
	case api.SeenFile:
		return e.Kind == api.KindFile && textDigest(e.Data) == s.Digest
	case api.SeenLink:
		return e.Kind == api.KindLink && textDigest(e.Data) == s.Digest
	case api.SeenDir:
		return e.Kind == api.KindDir && (s.Digest == api.Digest{} || g.namesDigest(s.Path) == s.Digest)
	}
	return false
}

func textDigest(s string) api.Digest { return sha.Of([]byte(s)) }

// namesDigest is of the names that the tree has right in a directory.
func (g ground) namesDigest(dir string) api.Digest {
	var names [][]byte
	for _, e := range g.within(dir) {
		names = append(names, []byte(lastName(e.Path)))
	}
	d, _ := sha.Tagged("names", names...)
	return d
}
