package deps

import (
	"strings"

	"treadle/api"
)

// Users are the units that lead to a path.
func Users(l []api.Unit, p string) []string {
	first := places(l)
	users := map[string][]int{}
	for i, u := range l {
		if first[u.Path] != i {
			continue
		}
		for _, need := range u.Needs {
			users[need] = append(users[need], i)
		}
	}
	told := make([]bool, len(l))
	// A unit's users are asked for once, when it is told: units may need one another in a ring.
	for ahead := []string{p}; len(ahead) > 0; {
		need := ahead[len(ahead)-1]
		ahead = ahead[:len(ahead)-1]
		for _, i := range users[need] {
			if !told[i] {
				told[i] = true
				ahead = append(ahead, l[i].Path)
			}
		}
	}
	var paths []string
	for i, u := range l {
		if told[i] {
			paths = append(paths, strings.Clone(u.Path))
		}
	}
	return paths
}

// Changed are the units that are not as they were.
func Changed(old, now []api.Unit) []string {
	were, are := places(old), places(now)
	var paths []string
	for i, u := range now {
		if are[u.Path] != i {
			continue
		}
		if at, there := were[u.Path]; !there || old[at].Whole != u.Whole {
			paths = append(paths, strings.Clone(u.Path))
		}
	}
	return paths
}

// places are where the units stand that count: of those of one Path the first.
func places(l []api.Unit) map[string]int {
	first := make(map[string]int, len(l))
	for i, u := range l {
		if _, there := first[u.Path]; !there {
			first[u.Path] = i
		}
	}
	return first
}
