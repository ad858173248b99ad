package query

import (
	"legation/api"
	"legation/formula"
	"legation/triples"
)

// lay lays an operation down behind those that are there.
func (r *reader) lay(o api.Op) {
	r.query.Code = append(r.query.Code, o)
}

// group reads a group, and lays down its code.
func (r *reader) group() bool {
	filters, ok := r.unfiltered()
	for _, f := range filters {
		r.lay(api.Op{Kind: api.OFilter, Formula: f})
	}
	return ok
}

// unfiltered reads a group, lays down its code without its own filters, and tells these.
func (r *reader) unfiltered() ([][]api.Part, bool) {
	var filters [][]api.Part
	there, ok := false, r.sign(begin) // there: have the elements ahead made anything?
elements:
	for ok {
		switch {
		case r.sign(end):
			break elements
		case r.word("FILTER"):
			var f []api.Part
			f, ok = r.filter()
			filters = append(filters, f)
			continue elements // it makes nothing before the group's end
		case r.word("OPTIONAL"):
			r.ground(there)
			ok = r.optional()
		case r.word("MINUS"):
			r.ground(there)
			ok = r.minus()
		case r.word("BIND"):
			r.ground(there)
			ok = r.bind()
		default:
			ok = r.piece()
			r.join(there)
		}
		there = true
	}
	r.ground(there)
	return filters, ok
}

// ground lays down an OBasic without triples for what must stand on something, if nothing is there.
func (r *reader) ground(there bool) {
	if !there {
		r.lay(api.Op{Kind: api.OBasic})
	}
}

// join joins the operation laid down last to what was there ahead of it, if anything was.
func (r *reader) join(there bool) {
	if there {
		r.lay(api.Op{Kind: api.OJoin})
	}
}

// piece reads an element that stands by itself.
func (r *reader) piece() bool {
	switch {
	case r.word("VALUES"):
		return r.values()
	case r.word("SERVICE"):
		return r.service()
	case r.is(api.TSign, begin):
		return r.union()
	}
	return r.basic()
}

// filter reads a filter behind its word, and tells its formula.
func (r *reader) filter() ([]api.Part, bool) {
	if !r.sign(opening) {
		return nil, false
	}
	f, ok := r.formula()
	return f, ok && r.sign(closing)
}

// formula reads a formula. One that is too long is none.
func (r *reader) formula() ([]api.Part, bool) {
	f, at, e := formula.Parse(r.list, r.at)
	if e != api.OK {
		return nil, false
	}
	r.at = at
	return f, true
}

func (r *reader) optional() bool {
	filters, ok := r.unfiltered()
	r.lay(api.Op{Kind: api.OLeft, Formula: conjunction(filters)})
	return ok
}

// conjunction tells the formula that all of some formulas hold; of none an empty one.
func conjunction(l [][]api.Part) []api.Part {
	var f []api.Part
	for i, part := range l {
		f = append(f, part...)
		if i > 0 {
			f = append(f, api.Part{Kind: api.XAnd})
		}
	}
	return f
}

func (r *reader) minus() bool {
	ok := r.group()
	r.lay(api.Op{Kind: api.OMinus})
	return ok
}

func (r *reader) bind() bool {
	if !r.sign(opening) {
		return false
	}
	f, ok := r.formula()
	if !ok || !r.word("AS") {
		return false
	}
	name, ok := r.variable()
	r.lay(api.Op{Kind: api.OExtend, Formula: f, Name: name})
	return ok && r.sign(closing)
}

func (r *reader) service() bool {
	silent := r.word("SILENT")
	w := r.next()
	if w.Kind != api.TTerm || w.Term.Kind != api.Iri || !r.group() {
		return false
	}
	r.lay(api.Op{Kind: api.OService, Name: w.Term.Text, Silent: silent})
	return true
}

// union reads a group, and those that are united with it.
func (r *reader) union() bool {
	ok := r.group()
	for ok && r.word("UNION") {
		ok = r.group()
		r.lay(api.Op{Kind: api.OUnion})
	}
	return ok
}

// basic reads triples that follow one another.
func (r *reader) basic() bool {
	var l []api.Triple
	for more := true; more; more = isTerm(r.ahead()) {
		t, ok := r.triple()
		if !ok {
			return false
		}
		l = append(l, t)
	}
	r.lay(api.Op{Kind: api.OBasic, Triples: l})
	return true
}

func (r *reader) triple() (api.Triple, bool) {
	var x [3]api.Term
	for i := range x {
		if !isTerm(r.ahead()) {
			return api.Triple{}, false
		}
		x[i] = termOf(r.next())
	}
	t := api.Triple{S: x[0], P: x[1], O: x[2]}
	return t, r.sign(stop) && triples.CheckPattern(t) == api.OK
}

func isTerm(t api.Token) bool {
	return t.Kind == api.TVar || t.Kind == api.TTerm
}

// termOf tells the term that a word is.
func termOf(t api.Token) api.Term {
	if t.Kind == api.TVar {
		return api.Term{Kind: api.Var, Text: t.Text}
	}
	return t.Term
}

// values reads a table behind its word. Whether its rows are as long as it asks is the concern of scope.Check.
func (r *reader) values() bool {
	var t api.Table
	if !r.sign(opening) {
		return false
	}
	for !r.sign(closing) {
		name, ok := r.variable()
		if !ok {
			return false
		}
		t.Vars = append(t.Vars, name)
	}
	if !r.sign(begin) {
		return false
	}
	for !r.sign(end) {
		row, ok := r.row()
		if !ok {
			return false
		}
		t.Rows = append(t.Rows, row)
	}
	r.lay(api.Op{Kind: api.OTable, Table: t})
	return true
}

func (r *reader) row() ([]api.Term, bool) {
	if !r.sign(opening) {
		return nil, false
	}
	var row []api.Term
	for !r.sign(closing) {
		x, ok := r.value()
		if !ok {
			return nil, false
		}
		row = append(row, x)
	}
	return row, true
}

// value reads what may stand in a row. Which terms may be there is the concern of scope.Check.
func (r *reader) value() (api.Term, bool) {
	switch {
	case r.word("UNDEF"):
		return api.Term{}, true
	case isTerm(r.ahead()):
		return termOf(r.next()), true
	}
	s, ok := r.digits()
	return api.Term{Kind: api.Literal, Text: s, Type: api.TypeInteger}, ok
}
