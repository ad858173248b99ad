package sources

import (
	"slices"

	"legation/api"
	"legation/triples"
)

// Touch tells whether two groups of l's patterns have a variable in common.
func Touch(l []api.Triple, a, b api.Group) bool {
	others := names(l, b)
	for name := range names(l, a) {
		if _, is := others[name]; is {
			return true
		}
	}
	return false
}

// Arrange tells the arrangement of groups of l's patterns, from the first one on, or from the last one on.
func Arrange(l []api.Triple, groups []api.Group, reverse bool) ([]api.Group, api.Errno) {
	if !right(l, groups) {
		return nil, api.ErrForm
	}
	order := slices.Clone(groups)
	if reverse {
		slices.Reverse(order) // so that the last one is the first one of all
	}
	told := make([]api.Group, len(order))
	t := newTaker(l, order)
	for i := range told {
		told[i] = copied(order[t.next()])
	}
	return told, api.OK
}

// right tells whether patterns are right, and groups have no places but theirs.
func right(l []api.Triple, groups []api.Group) bool {
	for _, p := range l {
		if triples.CheckPattern(p) != api.OK {
			return false
		}
	}
	for _, g := range groups {
		for _, at := range g.Patterns {
			if !isPlace(l, at) {
				return false
			}
		}
	}
	return true
}

// isPlace tells whether there is a pattern at a place of l.
func isPlace(l []api.Triple, at int) bool {
	return at >= 0 && at < len(l)
}

// names tells the names of the variables in a group's patterns.
func names(l []api.Triple, g api.Group) map[string]struct{} {
	set := make(map[string]struct{})
	for _, at := range g.Patterns {
		if !isPlace(l, at) {
			continue
		}
		for _, name := range triples.Vars(l[at]) {
			set[name] = struct{}{}
		}
	}
	return set
}

// taker takes groups one by one: of those that are left the first one that touches one that was taken; if none does, the first one.
type taker struct {
	names []map[string]struct{} // of each group
	taken map[int]struct{}      // which groups are taken
	have  map[string][]int      // which groups have a variable, of those that no taken one has
	near  []int                 // which groups are left, and touch a taken one, rising
	first int                   // all groups ahead of it are taken
}

func newTaker(l []api.Triple, groups []api.Group) *taker {
	t := &taker{taken: make(map[int]struct{}), have: make(map[string][]int)}
	for i, g := range groups {
		set := names(l, g)
		t.names = append(t.names, set)
		for name := range set {
			t.have[name] = append(t.have[name], i)
		}
	}
	return t
}

// next takes a group, and tells its place; one must be left.
func (t *taker) next() int {
	i := t.pick()
	t.taken[i] = struct{}{}
	for name := range t.names[i] {
		for _, other := range t.have[name] {
			t.reach(other)
		}
		delete(t.have, name) // all that have it are reached, so that it would be gone through for nothing
	}
	return i
}

// pick tells the place of the group that is next, and has it no longer among those that are near.
func (t *taker) pick() int {
	if len(t.near) > 0 {
		i := t.near[0]
		t.near = t.near[1:]
		return i
	}
	for t.isTaken(t.first) {
		t.first++
	}
	return t.first
}

// reach puts a group among those that are near, unless it is taken or stands there.
func (t *taker) reach(i int) {
	at, there := slices.BinarySearch(t.near, i)
	if !there && !t.isTaken(i) {
		t.near = slices.Insert(t.near, at, i)
	}
}

func (t *taker) isTaken(i int) bool {
	_, is := t.taken[i]
	return is
}
