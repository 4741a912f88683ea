package deps_test

import (
	"crypto/sha256"
	"encoding/binary"
	"slices"
	"strings"
	"testing"

	"treadle/api"
	"treadle/deps"
	"treadle/path"
	"treadle/scan"
	"treadle/view"
)

// slowWhole is layer 2's Tagged("unit", ..), written out.
func slowWhole(d api.Digest, needs ...api.Digest) api.Digest {
	b := []byte("\x04unit")
	for _, part := range append([]api.Digest{d}, needs...) {
		b = binary.BigEndian.AppendUint64(b, 32)
		b = append(b, part[:]...)
	}
	return sha256.Sum256(b)
}

// slow says the chapter's words of visiting once more: what has begun and what has ended stands in rows.
type slow struct {
	v            *view.View
	most         int
	begun, ended []string
	units        []api.Unit
	told         []api.Diag
}

func slowClose(v *view.View, start string, most int) ([]api.Unit, []api.Diag) {
	first, why := slowStart(v, start, most)
	if why != api.OK {
		return nil, []api.Diag{{Path: start, Why: why}}
	}
	s := slow{v: v, most: most}
	s.visit(first)
	if s.told != nil {
		return nil, s.told
	}
	return s.units, nil
}

func slowStart(v *view.View, start string, most int) (string, api.Errno) {
	if most < 1 {
		return "", api.ErrArg
	}
	if path.Check(start) != api.OK {
		return "", api.ErrPath
	}
	if start == "" {
		return "", api.ErrRoot
	}
	kind, e := v.Kind(start)
	switch {
	case e != api.OK:
		return "", e
	case kind == api.KindNone:
		return "", api.ErrMissing
	case kind == api.KindDir:
		return "", api.ErrDir
	}
	return v.Resolve(start)
}

func (s *slow) visit(p string) {
	s.begun = append(s.begun, p)
	text, _ := s.v.Read(p)
	u := api.Unit{Path: p, Text: text, Digest: sha256.Sum256([]byte(text))}
	l, fault := scan.Includes(text)
	if fault != (api.Fault{}) {
		s.told = append(s.told, api.Diag{Path: p, Why: fault.Why, At: fault.At})
		l = nil
	}
	u.Includes = l
	for _, in := range l {
		need, why := s.include(p, in.Path)
		if why != api.OK {
			s.told = append(s.told, api.Diag{Path: p, Why: why, At: in.At})
			continue
		}
		if !slices.Contains(s.begun, need) {
			s.visit(need)
		}
		u.Needs = append(u.Needs, need)
	}
	u.Whole = s.whole(u)
	s.ended = append(s.ended, p)
	s.units = append(s.units, u)
}

// include is the first thing that is wrong, or where it leads.
func (s *slow) include(module, written string) (string, api.Errno) {
	dir := ""
	if at := strings.LastIndex(module, "/"); at >= 0 {
		dir = module[:at]
	}
	aim, e := path.Aim(dir, written)
	if e != api.OK {
		return "", e
	}
	if aim == "" {
		return "", api.ErrRoot
	}
	need, e := s.v.Resolve(aim)
	if e != api.OK {
		return "", e
	}
	if kind, _ := s.v.Kind(aim); kind == api.KindDir {
		return "", api.ErrDir
	}
	if slices.Contains(s.begun, need) && !slices.Contains(s.ended, need) {
		return "", api.ErrCycle
	}
	if !slices.Contains(s.begun, need) && len(s.begun) >= s.most {
		return "", api.ErrModules
	}
	return need, api.OK
}

func (s *slow) whole(u api.Unit) api.Digest {
	var needs []api.Digest
	for _, need := range u.Needs {
		for _, x := range s.units {
			if x.Path == need {
				needs = append(needs, x.Whole)
			}
		}
	}
	return slowWhole(u.Digest, needs...)
}

// holdSlow holds what Close tells of a view, and what that has learnt, against the slow one over another view that stands so.
func holdSlow(t *testing.T, v, other *view.View, start string, most int) {
	t.Helper()
	got, told := deps.Close(v, start, most)
	want, why := slowClose(other, start, most)
	if !slices.EqualFunc(got, want, sameUnit) || !slices.Equal(told, why) {
		t.Errorf("Close(%q, %d): %s, not %s", start, most, shown(got, told), shown(want, why))
	}
	if !slices.Equal(v.Seen(), other.Seen()) {
		t.Errorf("Close(%q, %d): %v was learnt, not %v", start, most, v.Seen(), other.Seen())
	}
}

func sameUnit(a, b api.Unit) bool {
	return a.Path == b.Path && a.Text == b.Text && slices.Equal(a.Includes, b.Includes) && slices.Equal(a.Needs, b.Needs) && a.Digest == b.Digest && a.Whole == b.Whole
}

// slowRight is E2's list, one clause behind the other.
func slowRight(l []api.Unit) bool {
	if len(l) < 1 {
		return false
	}
	for i, u := range l {
		if u.Path == "" || path.Check(u.Path) != api.OK || placeOf(l, u.Path) != i {
			return false
		}
		includes, fault := scan.Includes(u.Text)
		if fault != (api.Fault{}) || !slices.Equal(includes, u.Includes) || len(u.Needs) != len(u.Includes) {
			return false
		}
		var wholes []api.Digest
		for _, need := range u.Needs {
			at := placeOf(l[:i], need)
			if at < 0 {
				return false
			}
			wholes = append(wholes, l[at].Whole)
		}
		needed := slices.ContainsFunc(l[i+1:], func(x api.Unit) bool { return slices.Contains(x.Needs, u.Path) })
		if !needed && i < len(l)-1 || u.Digest != sha256.Sum256([]byte(u.Text)) || u.Whole != slowWhole(u.Digest, wholes...) {
			return false
		}
	}
	return true
}

// placeOf is where the first unit of a Path stands; -1, if there is none.
func placeOf(l []api.Unit, p string) int {
	return slices.IndexFunc(l, func(u api.Unit) bool { return u.Path == p })
}

// slowUsers tells of more and more units, till it comes to no more.
func slowUsers(l []api.Unit, p string) []string {
	told := []string{p}
	var users []string
	for more := true; more; {
		more = false
		users = nil
		for i, u := range l {
			if placeOf(l, u.Path) != i || !slices.ContainsFunc(u.Needs, func(need string) bool { return slices.Contains(told, need) }) {
				continue
			}
			users = append(users, u.Path)
			if !slices.Contains(told, u.Path) {
				told, more = append(told, u.Path), true
			}
		}
	}
	return users
}

func slowChanged(old, now []api.Unit) []string {
	var paths []string
	for i, u := range now {
		if at := placeOf(old, u.Path); placeOf(now, u.Path) == i && (at < 0 || old[at].Whole != u.Whole) {
			paths = append(paths, u.Path)
		}
	}
	return paths
}
