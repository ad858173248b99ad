package scope

import (
	"slices"

	"legation/api"
	"legation/triples"
)

// result is what is known of an operation's result. Results may share their sets: none is changed, once it is made.
type result struct {
	first   int  // the place of the first operation of those that make it
	service bool // is an OService among these?
	variables
}

// variables are those that a result brings.
type variables struct {
	inScope, certain set[string]
}

// results tells the result of each operation of a code, or why c is none.
func results(c []api.Op) ([]result, api.Errno) {
	if len(c) > api.MaxOps {
		return nil, api.ErrLong
	}
	all := make([]result, 0, len(c))
	var open []result // those that no operation has taken yet
	e := api.OK       // ErrScope is told in the end, since an operation behind may make c no code whatever is in scope
	for i, o := range c {
		n := len(open) - Needs(o)
		if n < 0 || !Right(o) {
			return nil, api.ErrForm
		}
		needed := open[n:]
		if o.Kind == api.OService && needed[0].service {
			return nil, api.ErrForm
		}
		if o.Kind == api.OExtend && needed[0].inScope.has(o.Name) {
			e = api.ErrScope
		}
		r := made(o, i, needed)
		all = append(all, r)
		open = append(open[:n], r)
	}
	switch {
	case len(open) != 1:
		return nil, api.ErrForm
	case e != api.OK:
		return nil, e
	}
	return all, api.OK
}

// resultAt tells operation i's result.
func resultAt(c []api.Op, i int) (result, api.Errno) {
	all, e := results(c)
	if e != api.OK {
		return result{}, e
	}
	if i < 0 || i >= len(all) {
		return result{}, api.ErrRange
	}
	return all[i], api.OK
}

// made tells what the right operation o at place i makes of what it needs.
func made(o api.Op, i int, needed []result) result {
	r := result{first: i, service: o.Kind == api.OService, variables: brought(o, needed)}
	for _, x := range needed {
		r.first = min(r.first, x.first)
		r.service = r.service || x.service
	}
	return r
}

// brought tells the variables of o's result.
func brought(o api.Op, needed []result) variables {
	switch o.Kind {
	case api.OBasic:
		return ofPatterns(o.Triples)
	case api.OTable:
		return ofTable(o.Table)
	}
	v := needed[0].variables // of OMinus, of OFilter and of an OService that is not Silent just these
	switch o.Kind {
	case api.OJoin:
		v.inScope = either(v.inScope, needed[1].inScope)
		v.certain = either(v.certain, needed[1].certain)
	case api.OUnion:
		v.inScope = either(v.inScope, needed[1].inScope)
		v.certain = both(v.certain, needed[1].certain)
	case api.OLeft:
		v.inScope = either(v.inScope, needed[1].inScope)
	case api.OExtend:
		v.inScope = either(v.inScope, setOf(o.Name))
	case api.OService:
		if o.Silent { // it may come to the single empty solution
			v.certain = nil
		}
	}
	return v
}

func ofPatterns(l []api.Triple) variables {
	var names []string
	for _, t := range l {
		names = append(names, triples.Vars(t)...)
	}
	s := setOf(names...)
	return variables{inScope: s, certain: s}
}

func ofTable(t api.Table) variables {
	var bound []string
	for i, name := range t.Vars {
		lacks := func(row []api.Term) bool { return row[i].Kind == api.None }
		if !slices.ContainsFunc(t.Rows, lacks) {
			bound = append(bound, name)
		}
	}
	return variables{inScope: setOf(t.Vars...), certain: setOf(bound...)}
}
