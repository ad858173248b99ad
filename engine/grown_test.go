package engine_test

import (
	"math/rand/v2"
	"slices"
	"strconv"
	"testing"

	"legation/api"
	"legation/engine"
	"legation/scope"
	"legation/store"
)

func one[T any](r *rand.Rand, l []T) T { return l[r.IntN(len(l))] }

// some tells some of a list's elements, in any order.
func some[T any](r *rand.Rand, l []T) []T {
	l = slices.Clone(l)
	r.Shuffle(len(l), func(i, j int) { l[i], l[j] = l[j], l[i] })
	return l[:r.IntN(len(l)+1)]
}

func subjects() []api.Term {
	return []api.Term{iri("a"), iri("b"), iri("c"), {Kind: api.Blank, Text: "a"}, {Kind: api.Blank, Text: "b"}}
}

func predicates() []api.Term { return []api.Term{iri("k"), iri("n"), iri("a")} }

func objects() []api.Term {
	return append(subjects(), integer("1"), integer("2"), integer("01"), decimal("1.0"), literal("1"), literal("a"), iri("k"), integer("999999999"))
}

// grownTriples are at most n triples of few terms.
func grownTriples(r *rand.Rand, n int) []api.Triple {
	var l []api.Triple
	for range r.IntN(n + 1) {
		l = append(l, api.Triple{S: one(r, subjects()), P: one(r, predicates()), O: one(r, objects())})
	}
	return l
}

func grownStore(t *testing.T, r *rand.Rand, n int) *store.Store {
	t.Helper()
	return storeOf(t, grownTriples(r, n))
}

// names are few, so that patterns share some.
func names() []string { return []string{"x", "y", "z", "w"} }

// grownPattern has variables at most of its places.
func grownPattern(r *rand.Rand) api.Triple {
	p := api.Triple{S: variable(one(r, names())), P: one(r, predicates()), O: variable(one(r, names()))}
	if r.IntN(4) == 0 {
		p.S = one(r, subjects()[:3])
	}
	if r.IntN(5) == 0 {
		p.P = variable(one(r, names()))
	}
	if r.IntN(4) == 0 {
		p.O = one(r, slices.DeleteFunc(objects(), func(x api.Term) bool { return x.Kind == api.Blank }))
	}
	return p
}

// grownPatterns are at most n patterns, some of them twice; now and then two that share no variable.
func grownPatterns(r *rand.Rand, n int) []api.Triple {
	var l []api.Triple
	if n > 1 && r.IntN(12) == 0 {
		return []api.Triple{{S: variable("x"), P: iri("k"), O: variable("y")}, {S: variable("z"), P: iri("k"), O: variable("w")}}
	}
	for range r.IntN(n + 1) {
		if len(l) > 0 && r.IntN(8) == 0 {
			l = append(l, one(r, l))
		} else {
			l = append(l, grownPattern(r))
		}
	}
	return l
}

func grownTable(r *rand.Rand) api.Table {
	a := api.Table{Vars: some(r, names())}
	given := append(slices.DeleteFunc(objects(), func(x api.Term) bool { return x.Kind == api.Blank }), api.Term{}, api.Term{})
	for range r.IntN(5) {
		var row []api.Term
		for range a.Vars {
			row = append(row, one(r, given))
		}
		a.Rows = append(a.Rows, row)
	}
	return a
}

// grownWorld has stores of names that stand twice, one that is nil, and now and then one in which two patterns make more rows than may be.
func grownWorld(t *testing.T, r *rand.Rand) engine.World {
	t.Helper()
	w := engine.World{Base: grownStore(t, r, 25)}
	for _, name := range some(r, []string{"e0", "e1", "e2", "e0", "e1", "e4"}) {
		w.Names = append(w.Names, name)
		s := grownStore(t, r, 25)
		switch {
		case r.IntN(6) == 0:
			s = nil
		case r.IntN(6) == 0:
			s = storeOf(t, counted("k", 65))
		}
		w.Stores = append(w.Stores, s)
	}
	return w
}

// grownFormula holds for some rows, and comes to an error in some.
func grownFormula(t *testing.T, r *rand.Rand) []api.Part {
	t.Helper()
	return parts(t, one(r, []string{"TRUE", "FALSE", "?x = ?y", "?x != ?z", "?y > 1", "?z <= ?w", "BOUND(?x)", "! BOUND(?z)", "ISIRI(?y)", "?x + 1", "COALESCE(?w,?z,1)", "1 / 0", "SAMETERM(?x,?y) || BOUND(?w)", "STR(?y)", "?v0 = ?x", "<a>"}))
}

// grownCode lays n operations on what is there, or a code that no Check refuses but for a name in scope.
func grownCode(t *testing.T, r *rand.Rand, n int, served bool) []api.Op {
	t.Helper()
	if n <= 1 {
		if r.IntN(4) == 0 {
			return []api.Op{{Kind: api.OTable, Table: grownTable(r)}}
		}
		return []api.Op{{Kind: api.OBasic, Triples: grownPatterns(r, 3)}}
	}
	switch kind := r.IntN(10); {
	case kind == 0:
		return append(grownCode(t, r, n-1, served), api.Op{Kind: api.OFilter, Formula: grownFormula(t, r)})
	case kind == 1:
		return append(grownCode(t, r, n-1, served), api.Op{Kind: api.OExtend, Name: "v" + strconv.Itoa(r.IntN(9)), Formula: grownFormula(t, r)})
	case kind < 4 && !served:
		return append(grownCode(t, r, n-1, true), api.Op{Kind: api.OService, Name: one(r, []string{"e0", "e1", "e2", "e3", "e4"}), Silent: r.IntN(2) == 0})
	}
	o := api.Op{Kind: one(r, []int{api.OJoin, api.OJoin, api.OUnion, api.OLeft, api.OMinus})}
	if o.Kind == api.OLeft && r.IntN(2) == 0 {
		o.Formula = grownFormula(t, r)
	}
	m := 1 + r.IntN(n-1)
	return append(slices.Concat(grownCode(t, r, m, served), grownCode(t, r, n-m, served)), o)
}

// rightCode tells a grown code that Check lets pass.
func rightCode(t *testing.T, r *rand.Rand, n int) []api.Op {
	t.Helper()
	for {
		if c := grownCode(t, r, 1+r.IntN(n), false); scope.Check(c) == api.OK {
			return c
		}
	}
}

// grownQuery tells a query of a grown code: one that asks, one that is Grouped, or one that is not.
func grownQuery(t *testing.T, r *rand.Rand, n int) api.Query {
	t.Helper()
	q := api.Query{Code: rightCode(t, r, n), Limit: -1}
	x, _ := planted(q.Code)
	inScope := x.names()
	kind := r.IntN(5)
	if kind == 0 {
		q.Ask = true
		return q
	}
	q.Vars = some(r, inScope)
	if kind < 3 {
		q.Group = some(r, inScope)
		q.Vars = some(r, q.Group)
		q.Aggs = grownAggs(r, inScope)
	}
	for _, a := range q.Aggs { // their Names stand in their order, anywhere between others
		at := len(q.Vars)
		for at > 0 && r.IntN(2) == 0 && q.Vars[at-1][0] != 'q' {
			at--
		}
		q.Vars = slices.Insert(q.Vars, at, a.Name)
	}
	q.Grouped = len(q.Aggs) > 0 || len(q.Group) > 0
	for range r.IntN(4) {
		if len(q.Vars) > 0 {
			q.Order = append(q.Order, api.Key{Name: one(r, q.Vars), Desc: r.IntN(2) == 0})
		}
	}
	q.Distinct = r.IntN(2) == 0
	if r.IntN(3) == 0 {
		q.Offset = r.IntN(4)
	}
	if r.IntN(3) == 0 {
		q.Limit = r.IntN(5)
	}
	return q
}

func grownAggs(r *rand.Rand, vars []string) []api.Agg {
	var l []api.Agg
	for i := range r.IntN(4) {
		a := api.Agg{Kind: api.ACount, Name: "q" + strconv.Itoa(i)}
		if len(vars) > 0 && r.IntN(5) > 0 {
			a.Kind, a.Over = 1+r.IntN(4), one(r, vars)
		}
		l = append(l, a)
	}
	return l
}
