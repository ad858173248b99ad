package engine

import (
	"slices"

	"legation/api"
	"legation/scope"
	"legation/shape"
	"legation/store"
	"legation/table"
	"legation/triples"
)

// Basic tells the rows that all of some patterns have together in a store.
func Basic(s *store.Store, l []api.Triple) (api.Table, api.Errno) {
	for _, p := range l { // all of them ahead: one that is not right weighs more than too many rows
		if e := triples.CheckPattern(p); e != api.OK {
			return api.Table{}, e
		}
	}
	if s == nil {
		s = store.New()
	}
	t, e := table.Unit(), api.OK
	for _, p := range l {
		rows, _ := s.Match(p)
		t, e = table.Join(t, rows)
		if e != api.OK {
			return api.Table{}, e
		}
	}
	return t, api.OK
}

// whole tells what a right code comes to: what a service needs in the store that it names, all else in the base.
func whole(w World, c []api.Op) (api.Table, api.Errno) {
	var results []api.Table
	behind := 0 // the place behind the last service
	for i, o := range c {
		if o.Kind != api.OService {
			continue
		}
		from, _ := scope.From(c, i)
		ahead, e := carried(w.Base, c[behind:from], results)
		if e != api.OK {
			return api.Table{}, e
		}
		t, e := served(w, o, c[from:i])
		if e != api.OK {
			return api.Table{}, e
		}
		results, behind = append(ahead, t), i+1
	}
	return last(carried(w.Base, c[behind:], results))
}

// carried tells the results that are there, when operations have been carried out in a store, in order: each takes what it needs from the end, and lays its own there.
func carried(s *store.Store, c []api.Op, results []api.Table) ([]api.Table, api.Errno) {
	for _, o := range c {
		at := len(results) - scope.Needs(o)
		t, e := operation(s, o, results[at:])
		if e != api.OK {
			return nil, e
		}
		results = append(results[:at:at], t) // without room behind, so that nothing is laid over what was taken
	}
	return results, api.OK
}

// last tells the one result that is left of a right code.
func last(results []api.Table, e api.Errno) (api.Table, api.Errno) {
	if e != api.OK {
		return api.Table{}, e
	}
	return results[len(results)-1], api.OK
}

// operation tells what an operation other than a service comes to in a store, from what it needs.
func operation(s *store.Store, o api.Op, needed []api.Table) (api.Table, api.Errno) {
	switch o.Kind {
	case api.OTable:
		return shape.Project(o.Table, o.Table.Vars) // all columns, in new memory
	case api.OJoin:
		return table.Join(needed[0], needed[1])
	case api.OUnion:
		return table.Union(needed[0], needed[1])
	case api.OLeft:
		return table.Left(needed[0], needed[1], o.Formula)
	case api.OMinus:
		return table.Minus(needed[0], needed[1])
	case api.OFilter:
		return table.Filter(needed[0], o.Formula)
	case api.OExtend:
		return table.Extend(needed[0], o.Name, o.Formula)
	}
	return Basic(s, o.Triples)
}

// served tells what a service comes to, from the operations that it needs.
func served(w World, o api.Op, c []api.Op) (api.Table, api.Errno) {
	t, e := api.Table{}, api.ErrNone
	if s, is := named(w.Names, w.Stores, o.Name); is {
		t, e = last(carried(s, c, nil))
	}
	if e != api.OK && o.Silent {
		return table.Unit(), api.OK
	}
	return t, e
}

// named tells which of some things has a name: the one at the place of the first of the names that is alike.
func named[T any](names []string, things []T, name string) (T, bool) {
	at := slices.Index(names, name)
	if at < 0 || at >= len(things) {
		var none T
		return none, false
	}
	return things[at], true
}
