package table

import (
	"cmp"
	"slices"

	"legation/api"
	"legation/formula"
)

// Join tells what the rows of a and b make that go together.
func Join(a, b api.Table) (api.Table, api.Errno) {
	if e := cmp.Or(Check(a), Check(b)); e != api.OK {
		return api.Table{}, e
	}
	p := pairOf(a, b)
	return p.table(a.Rows, func(r []api.Term) [][]api.Term { return p.matches(r, b.Rows, nil) })
}

// Left tells what the rows of a and b make that go together, and a's own rows where there is none for which f holds.
func Left(a, b api.Table, f []api.Part) (api.Table, api.Errno) {
	e := cmp.Or(Check(a), Check(b))
	if e == api.OK && len(f) > 0 {
		e = formula.Check(f)
	}
	if e != api.OK {
		return api.Table{}, e
	}
	p := pairOf(a, b)
	return p.table(a.Rows, func(r []api.Term) [][]api.Term {
		if l := p.matches(r, b.Rows, f); len(l) > 0 {
			return l
		}
		return [][]api.Term{p.made(r, nil)}
	})
}

// Minus tells a's rows but those that go together with one of b by a variable that is bound in both.
func Minus(a, b api.Table) (api.Table, api.Errno) {
	if e := cmp.Or(Check(a), Check(b)); e != api.OK {
		return api.Table{}, e
	}
	p := pairOf(a, b)
	return kept(a, func(r []api.Term) bool {
		return !slices.ContainsFunc(b.Rows, func(s []api.Term) bool {
			together, bound := p.held(r, s)
			return together && bound
		})
	}), api.OK
}

// columnsOf tells which column each variable has.
func columnsOf(vars []string) map[string]int {
	columns := make(map[string]int, len(vars))
	for i, name := range vars {
		columns[name] = i
	}
	return columns
}

// pair knows the variables of two tables, and where the second one's stand among them.
type pair struct {
	vars   []string // of both
	places []int    // where in vars the second one's stand
	shared []int    // which of the second one's columns the first one has, too
}

func pairOf(a, b api.Table) pair {
	p := pair{vars: copied(a.Vars)}
	columns := columnsOf(a.Vars)
	for i, name := range b.Vars {
		place, is := columns[name]
		if is {
			p.shared = append(p.shared, i)
		} else {
			place = len(p.vars)
			p.vars = append(p.vars, name)
		}
		p.places = append(p.places, place)
	}
	return p
}

// table tells what comes of each of some rows, or ErrLong, where that is too much. It looks no further than that is told by.
func (p pair) table(rows [][]api.Term, come func(r []api.Term) [][]api.Term) (api.Table, api.Errno) {
	if len(p.vars) > api.MaxVars {
		return api.Table{}, api.ErrLong
	}
	t := api.Table{Vars: p.vars}
	for _, r := range rows {
		t.Rows = append(t.Rows, come(r)...)
		if len(t.Rows) > api.MaxRows {
			return api.Table{}, api.ErrLong
		}
	}
	return t, api.OK
}

// matches tells what r makes with those rows of the second table that go together with it and for which f holds; without f with each of these.
func (p pair) matches(r []api.Term, rows [][]api.Term, f []api.Part) [][]api.Term {
	var l [][]api.Term
	for _, s := range rows {
		if together, _ := p.held(r, s); !together {
			continue
		}
		row := p.made(r, s)
		if len(f) == 0 || holds(f, p.vars, row) {
			l = append(l, row)
		}
	}
	return l
}

// held holds two rows against each other: whether they go together, and, if so, whether a variable is bound in both.
func (p pair) held(r, s []api.Term) (together, bound bool) {
	for _, i := range p.shared {
		x, y := &r[p.places[i]], &s[i]
		if x.Kind == api.None || y.Kind == api.None {
			continue
		}
		if *x != *y {
			return false, false
		}
		bound = true
	}
	return true, bound
}

// made tells what two rows that go together make; either of them may be nil, and then the other one comes alone.
func (p pair) made(r, s []api.Term) []api.Term {
	row := make([]api.Term, len(p.vars))
	copy(row, r)
	for i, t := range s {
		if t.Kind != api.None {
			row[p.places[i]] = t
		}
	}
	return row
}
