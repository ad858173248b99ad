package store

import (
	"slices"
	"sort"

	"legation/api"
	"legation/triples"
)

// Match tells the rows of p.
func (s *Store) Match(p api.Triple) (api.Table, api.Errno) {
	if e := s.refused(p); e != api.OK {
		return api.Table{}, e
	}
	found := s.matching(p)
	table := api.Table{Vars: triples.Vars(p), Rows: make([][]api.Term, len(found))}
	columns := firstPlaces(p)
	for i, t := range found {
		table.Rows[i] = row(t, columns)
	}
	return table, api.OK
}

// Ask tells whether a triple matches p.
func (s *Store) Ask(p api.Triple) (bool, api.Errno) {
	if e := s.refused(p); e != api.OK {
		return false, e
	}
	return slices.ContainsFunc(s.near(p), func(t api.Triple) bool { return alike(t, p) }), api.OK
}

func (s *Store) refused(p api.Triple) api.Errno {
	if s == nil {
		return api.ErrState
	}
	return triples.CheckPattern(p)
}

// matching tells the triples that match p, in the order of triples.
func (s *Store) matching(p api.Triple) []api.Triple {
	var found []api.Triple
	for _, t := range s.near(p) {
		if alike(t, p) {
			found = append(found, t)
		}
	}
	slices.SortFunc(found, triples.Compare) // the list that they were found in may be in another order
	return found
}

// near tells a piece of one list: the triples with p's terms where it has no variable.
func (s *Store) near(p api.Triple) []api.Triple {
	from, n := given(p)
	l := s.lists[from]
	begin := sort.Search(len(l), func(i int) bool { return compare(l[i], p, from, n) >= 0 })
	end := sort.Search(len(l), func(i int) bool { return compare(l[i], p, from, n) > 0 })
	return l[begin:end]
}

// given tells where p's terms that are no variables begin, and how many they are. Of three places gone through round they always stand side by side.
func given(p api.Triple) (int, int) {
	from, n := 0, 0
	x := terms(p)
	for i := range x {
		if x[i].Kind == api.Var {
			continue
		}
		n++
		if x[(i+places-1)%places].Kind == api.Var {
			from = i
		}
	}
	return from, n
}

// alike tells whether t has one term where p has one.
func alike(t, p api.Triple) bool {
	x, y := terms(t), terms(p)
	for i := range y {
		for j := range i {
			if y[i] == y[j] && x[i] != x[j] {
				return false
			}
		}
	}
	return true
}

// firstPlaces tells where each of p's variables stands first.
func firstPlaces(p api.Triple) []int {
	var l []int
	x := terms(p)
	for i := range x {
		if x[i].Kind == api.Var && !slices.Contains(x[:i], x[i]) {
			l = append(l, i)
		}
	}
	return l
}

func row(t api.Triple, columns []int) []api.Term {
	x := terms(t)
	l := make([]api.Term, len(columns))
	for i, at := range columns {
		l[i] = x[at]
	}
	return l
}
