package engine_test

import (
	"slices"

	"legation/api"
	"legation/engine"
	"legation/eval"
	"legation/group"
	"legation/shape"
	"legation/store"
	"legation/triples"
)

// The tests' own reading of the chapter: a row is what its variables are bound to, and has nothing of those that are not bound; a code is a tree, gone down from its last operation.

type binding map[string]api.Term

type plain struct {
	vars []string
	rows []binding
}

func (b binding) row(vars []string) []api.Term {
	var row []api.Term
	for _, v := range vars {
		row = append(row, b[v])
	}
	return row
}

func plainOf(a api.Table) plain {
	p := plain{vars: slices.Clone(a.Vars)}
	for _, row := range a.Rows {
		b := binding{}
		for i, x := range row {
			if x.Kind != api.None {
				b[a.Vars[i]] = x
			}
		}
		p.rows = append(p.rows, b)
	}
	return p
}

func (p plain) table() api.Table {
	a := api.Table{Vars: p.vars}
	for _, b := range p.rows {
		a.Rows = append(a.Rows, b.row(p.vars))
	}
	return a
}

// plainUnit is one row that binds nothing.
func plainUnit() plain { return plain{rows: []binding{{}}} }

// tooLong tells whether a table has more columns or rows than may be.
func (p plain) tooLong() bool { return len(p.vars) > api.MaxVars || len(p.rows) > api.MaxRows }

// fitting tells p, or ErrLong.
func (p plain) fitting() (plain, api.Errno) {
	if p.tooLong() {
		return plain{}, api.ErrLong
	}
	return p, api.OK
}

// bound tells b with v bound to x, too, if it isn't bound to another term.
func (b binding) bound(v string, x api.Term) (binding, bool) {
	if y, is := b[v]; is {
		return b, x == y
	}
	c := binding{v: x}
	for u, y := range b {
		c[u] = y
	}
	return c, true
}

// matched tells b with what p's variables are bound to where p is the triple t.
func (b binding) matched(p, t api.Triple) (binding, bool) {
	terms := []api.Term{t.S, t.P, t.O}
	for i, x := range []api.Term{p.S, p.P, p.O} {
		is := x == terms[i]
		if x.Kind == api.Var {
			b, is = b.bound(x.Text, terms[i])
		}
		if !is {
			return nil, false
		}
	}
	return b, true
}

// plainBasic goes on from each row by each triple of the store, pattern by pattern.
func plainBasic(s *store.Store, l []api.Triple) (plain, api.Errno) {
	p := plainUnit()
	for _, x := range l {
		if triples.CheckPattern(x) != api.OK {
			return plain{}, api.ErrForm
		}
	}
	for _, x := range l {
		var rows []binding
		for _, b := range p.rows {
			for _, y := range s.All() {
				if c, is := b.matched(x, y); is {
					rows = append(rows, c)
				}
			}
		}
		p = plain{withNames(p.vars, triples.Vars(x)), rows}
		if p.tooLong() {
			return plain{}, api.ErrLong
		}
	}
	return p, api.OK
}

// withNames tells names, then those of others that aren't among them.
func withNames(l, others []string) []string {
	l = slices.Clone(l)
	for _, v := range others {
		if !slices.Contains(l, v) {
			l = append(l, v)
		}
	}
	return l
}

// with tells what two rows make, and in how many variables they are alike; false, if they don't go together.
func (b binding) with(c binding) (binding, int, bool) {
	alike, together := 0, true
	for v, x := range c {
		if b[v] == x {
			alike++
		}
		if b, together = b.bound(v, x); !together {
			return nil, 0, false
		}
	}
	return b, alike, true
}

func (b binding) holds(f []api.Part, vars []string) bool {
	is, _ := eval.Holds(f, vars, b.row(vars))
	return is || len(f) == 0
}

// plainPairs tells what each row of x makes with those of y that go together with it, and for which f holds; where there is none, the row itself, if it is to stay.
func plainPairs(x, y plain, f []api.Part, stays bool) plain {
	p := plain{vars: withNames(x.vars, y.vars)}
	for _, b := range x.rows {
		n := len(p.rows)
		for _, c := range y.rows {
			if d, _, together := b.with(c); together && d.holds(f, p.vars) {
				p.rows = append(p.rows, d)
			}
		}
		if stays && len(p.rows) == n {
			p.rows = append(p.rows, b)
		}
	}
	return p
}

func plainMinus(x, y plain) plain {
	return plain{x.vars, slices.DeleteFunc(slices.Clone(x.rows), func(b binding) bool {
		return slices.ContainsFunc(y.rows, func(c binding) bool {
			_, alike, together := b.with(c)
			return together && alike > 0
		})
	})}
}

func plainExtend(x plain, name string, f []api.Part) plain {
	p := plain{vars: withNames(x.vars, []string{name})}
	for _, b := range x.rows {
		if y, e := eval.Eval(f, x.vars, b.row(x.vars)); e == api.OK {
			b, _ = b.bound(name, y)
		}
		p.rows = append(p.rows, b)
	}
	return p
}

// tree is an operation and what it needs.
type tree struct {
	op   api.Op
	kids []tree
}

// needs is how many results an operation takes, by its kind.
var needs = map[int]int{api.OJoin: 2, api.OUnion: 2, api.OLeft: 2, api.OMinus: 2, api.OFilter: 1, api.OExtend: 1, api.OService: 1}

// planted tells the tree of a right code's last operation, and how many operations stand ahead of it.
func planted(c []api.Op) (tree, int) {
	at := len(c) - 1
	x := tree{op: c[at]}
	for range needs[x.op.Kind] {
		var kid tree
		kid, at = planted(c[:at])
		x.kids = append([]tree{kid}, x.kids...)
	}
	return x, at
}

// names tells the variables in scope.
func (x tree) names() []string {
	var l []string
	switch x.op.Kind {
	case api.OBasic:
		for _, p := range x.op.Triples {
			l = withNames(l, triples.Vars(p))
		}
	case api.OTable:
		l = x.op.Table.Vars
	case api.OJoin, api.OUnion, api.OLeft:
		l = withNames(x.kids[0].names(), x.kids[1].names())
	default:
		l = x.kids[0].names()
		if x.op.Kind == api.OExtend {
			l = withNames(l, []string{x.op.Name})
		}
	}
	return slices.Sorted(slices.Values(l))
}

// comesTo tells what an operation comes to in s, over a world.
func (x tree) comesTo(w engine.World, s *store.Store) (plain, api.Errno) {
	if x.op.Kind == api.OService {
		return x.served(w)
	}
	var kids []plain
	for _, kid := range x.kids {
		p, e := kid.comesTo(w, s)
		if e != api.OK {
			return plain{}, e
		}
		kids = append(kids, p)
	}
	switch x.op.Kind {
	case api.OBasic:
		return plainBasic(s, x.op.Triples)
	case api.OTable:
		return plainOf(x.op.Table), api.OK
	case api.OJoin:
		return plainPairs(kids[0], kids[1], nil, false).fitting()
	case api.OUnion:
		return plain{withNames(kids[0].vars, kids[1].vars), slices.Concat(kids[0].rows, kids[1].rows)}.fitting()
	case api.OLeft:
		return plainPairs(kids[0], kids[1], x.op.Formula, true).fitting()
	case api.OMinus:
		return plainMinus(kids[0], kids[1]), api.OK
	case api.OFilter:
		return plainPairs(kids[0], plainUnit(), x.op.Formula, false), api.OK
	}
	return plainExtend(kids[0], x.op.Name, x.op.Formula).fitting()
}

// served tells what a service comes to.
func (x tree) served(w engine.World) (plain, api.Errno) {
	p, e := plain{}, api.ErrNone
	for i := len(w.Names) - 1; i >= 0; i-- { // the first one of a name is left in the end
		if w.Names[i] == x.op.Name {
			p, e = x.kids[0].comesTo(w, w.Stores[i])
		}
	}
	if e != api.OK && x.op.Silent {
		return plainUnit(), api.OK
	}
	return p, e
}

// plainCode tells what a right code comes to.
func plainCode(w engine.World, c []api.Op) (plain, api.Errno) {
	x, _ := planted(c)
	return x.comesTo(w, w.Base)
}

// projected tells some columns of each row, and those that are bound there alone.
func (p plain) projected(vars []string) plain {
	got := plain{vars: vars}
	for _, b := range p.rows {
		c := binding{}
		for _, v := range vars {
			if x, is := b[v]; is {
				c[v] = x
			}
		}
		got.rows = append(got.rows, c)
	}
	return got
}

// plainRun tells a right query's table.
func plainRun(w engine.World, q api.Query) (api.Table, api.Errno) {
	p, e := plainCode(w, q.Code)
	switch {
	case e != api.OK:
		return api.Table{}, e
	case q.Ask:
		return api.Table{Rows: make([][]api.Term, min(1, len(p.rows)))}, api.OK
	}
	if q.Grouped {
		x, _ := planted(q.Code)
		p = p.projected(x.names())
		g, e := group.Group(p.table(), q.Group, q.Aggs)
		if p.tooLong() {
			return api.Table{}, api.ErrLong
		}
		if e != api.OK {
			return api.Table{}, e
		}
		p = plainOf(g)
	}
	return plainForm(p.projected(q.Vars).table(), q), api.OK
}

// plainForm tells a table's rows in the query's order, each once, if they are to be, and the piece of them.
func plainForm(a api.Table, q api.Query) api.Table {
	slices.SortStableFunc(a.Rows, func(r, s []api.Term) int {
		for _, k := range q.Order {
			i := slices.Index(a.Vars, k.Name)
			c := shape.Compare(r[i], s[i])
			if k.Desc {
				c = -c
			}
			if c != 0 {
				return c
			}
		}
		return slices.CompareFunc(r, s, shape.Compare)
	})
	if q.Distinct {
		a.Rows = slices.CompactFunc(a.Rows, slices.Equal[[]api.Term]) // those that are the same stand side by side
	}
	a.Rows = a.Rows[min(q.Offset, len(a.Rows)):]
	if q.Limit >= 0 {
		a.Rows = a.Rows[:min(q.Limit, len(a.Rows))]
	}
	return a
}
