package deps

import (
	"slices"

	"treadle/api"
	"treadle/path"
	"treadle/scan"
	"treadle/sha"
)

// Whole is the digest of a unit's text and of all that it leads to.
func Whole(d api.Digest, needs ...api.Digest) api.Digest {
	parts := make([][]byte, 0, 1+len(needs))
	parts = append(parts, d[:])
	for i := range needs {
		parts = append(parts, needs[i][:])
	}
	whole, _ := sha.Tagged("unit", parts...)
	return whole
}

// Right tells whether units may be a closure's.
func Right(l []api.Unit) bool {
	if len(l) == 0 {
		return false
	}
	ahead := make(map[string]int, len(l))
	needed := make([]bool, len(l))
	for i, u := range l {
		if _, there := ahead[u.Path]; there || !rightAlone(u) {
			return false
		}
		var wholes []api.Digest
		for _, need := range u.Needs {
			at, there := ahead[need]
			if !there {
				return false
			}
			needed[at] = true
			wholes = append(wholes, l[at].Whole)
		}
		if u.Whole != Whole(u.Digest, wholes...) {
			return false
		}
		ahead[u.Path] = i
	}
	return !slices.Contains(needed[:len(l)-1], false)
}

// rightAlone tells whether all is right with a unit that can be told without the others.
func rightAlone(u api.Unit) bool {
	if u.Path == root || path.Check(u.Path) != api.OK || len(u.Needs) != len(u.Includes) {
		return false
	}
	l, f := scan.Includes(u.Text)
	return f.Why == api.OK && slices.Equal(l, u.Includes) && u.Digest == textDigest(u.Text)
}
