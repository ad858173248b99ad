package server_test

import (
	"math/rand/v2"
	"slices"
	"strconv"
	"strings"
	"testing"

	"legation/api"
	"legation/formula"
	"legation/lex"
	"legation/print"
	"legation/scope"
	"legation/store"
)

// telling are bytes that matter most in a request.
const telling = "=&%+ aF29f-~?{}<>\"\n\x00\xff"

// grower grows stores, codes, queries and bytes by chance.
type grower struct {
	r     *rand.Rand
	names int            // of OExtend, so that none comes twice
	great []*store.Store // of which replies may be too long, or which the engine refuses: made once
}

func newGrower(seed uint64) *grower {
	return &grower{r: rand.New(rand.NewPCG(18, seed))}
}

func one[T any](g *grower, l ...T) T { return l[g.r.IntN(len(l))] }

// some tells some of a list's elements, in any order.
func some[T any](g *grower, l []T) []T {
	l = slices.Clone(l)
	g.r.Shuffle(len(l), func(i, j int) { l[i], l[j] = l[j], l[i] })
	return l[:g.r.IntN(len(l)+1)]
}

func (g *grower) subject() api.Term { return one(g, iri("a"), iri("b"), iri("c"), iri("d")) }

func (g *grower) object() api.Term {
	return one(g, g.subject(), g.subject(), integer("1"), integer("2"), integer("999999999"), literal("1"), literal("\"\\\n\t"), api.Term{Kind: api.Literal, Text: "a", Lang: "en"})
}

func (g *grower) predicate() api.Term { return one(g, iri("k"), iri("n"), iri("a")) }

// triples are at most n triples of few terms, blank nodes among them.
func (g *grower) triples(n int) []api.Triple {
	b := api.Term{Kind: api.Blank, Text: "b"}
	var l []api.Triple
	for range g.r.IntN(n + 1) {
		l = append(l, api.Triple{S: one(g, g.subject(), g.subject(), b), P: g.predicate(), O: one(g, g.object(), g.object(), g.object(), b)})
	}
	return l
}

// store grows a store, or none; now and then one of which a reply may be too long, or that the engine refuses.
func (g *grower) store(t *testing.T) *store.Store {
	t.Helper()
	switch g.r.IntN(12) {
	case 0:
		return nil
	case 1, 2, 3:
		return one(g, g.greats(t)...)
	}
	return storeOf(t, g.triples(30))
}

func (g *grower) greats(t *testing.T) []*store.Store {
	t.Helper()
	if g.great != nil {
		return g.great
	}
	for _, n := range []int{33, 40, 65, 1024, 1025} {
		g.great = append(g.great, storeOf(t, append(g.triples(30), counted("k", n)...)))
	}
	l := g.triples(30)
	for i := range 17 {
		l = append(l, api.Triple{S: iri("a"), P: iri("k"), O: literal(strings.Repeat("\n", 1900+i))})
	}
	g.great = append(g.great, storeOf(t, l))
	return g.great
}

func (g *grower) variable() api.Term { return variable(one(g, "x", "y", "z", "w")) }

// patterns are at most n, with variables at most of their places.
func (g *grower) patterns(n int) []api.Triple {
	if n > 1 && g.r.IntN(12) == 0 {
		return []api.Triple{{S: variable("x"), P: iri("k"), O: variable("y")}, {S: variable("z"), P: iri("k"), O: variable("w")}}
	}
	var l []api.Triple
	for range g.r.IntN(n + 1) {
		p := api.Triple{S: g.variable(), P: g.predicate(), O: g.variable()}
		if g.r.IntN(4) == 0 {
			p.S = g.subject()
		}
		if g.r.IntN(5) == 0 {
			p.P = g.variable()
		}
		if g.r.IntN(4) == 0 {
			p.O = g.object()
		}
		l = append(l, p)
	}
	return l
}

func (g *grower) table() api.Table {
	a := api.Table{Vars: some(g, []string{"x", "y", "z", "w"})}
	for range g.r.IntN(5) {
		var row []api.Term
		for range a.Vars {
			row = append(row, one(g, g.object(), g.object(), api.Term{}))
		}
		a.Rows = append(a.Rows, row)
	}
	return a
}

// parts tells the formula of a text.
func parts(t *testing.T, s string) []api.Part {
	t.Helper()
	l, _, e := lex.Lex(s)
	f, at, d := formula.Parse(l, 0)
	if at != len(l) || e != api.OK || d != api.OK {
		t.Fatalf("%q: %d, %d %d", s, e, at, d)
	}
	return f
}

// formula grows one that holds for some rows, and comes to an error in some.
func (g *grower) formula(t *testing.T) []api.Part {
	t.Helper()
	return parts(t, one(g, "TRUE", "FALSE", "?x = ?y", "?x != ?z", "?y > 1", "?z <= ?w", "BOUND(?x)", "! BOUND(?z)", "ISIRI(?y)", "?x + 1", "COALESCE(?w,?z,1)", "1 / 0", "SAMETERM(?x,?y) || BOUND(?w)", "STR(?y)", "<a>"))
}

// laid lays n operations on what is there, or a code that no Check refuses but for a name in scope; now and then with a service.
func (g *grower) laid(t *testing.T, n int, service bool) []api.Op {
	t.Helper()
	if n <= 1 {
		if g.r.IntN(4) == 0 {
			return []api.Op{{Kind: api.OTable, Table: g.table()}}
		}
		return []api.Op{{Kind: api.OBasic, Triples: g.patterns(3)}}
	}
	switch kind := g.r.IntN(20); {
	case kind < 3:
		return append(g.laid(t, n-1, service), api.Op{Kind: api.OFilter, Formula: g.formula(t)})
	case kind < 5:
		g.names++
		return append(g.laid(t, n-1, service), api.Op{Kind: api.OExtend, Name: "e" + strconv.Itoa(g.names), Formula: g.formula(t)})
	case kind == 5 && service:
		return append(g.laid(t, n-1, false), api.Op{Kind: api.OService, Name: "e", Silent: g.r.IntN(2) == 0})
	}
	o := api.Op{Kind: one(g, api.OJoin, api.OJoin, api.OUnion, api.OLeft, api.OMinus)}
	if o.Kind == api.OLeft && g.r.IntN(2) == 0 {
		o.Formula = g.formula(t)
	}
	m := 1 + g.r.IntN(n-1)
	return append(slices.Concat(g.laid(t, m, service), g.laid(t, n-m, service)), o)
}

// code tells a grown code that is right.
func (g *grower) code(t *testing.T, n int, service bool) []api.Op {
	t.Helper()
	for {
		if c := g.laid(t, 1+g.r.IntN(n), service); scope.Check(c) == api.OK {
			return c
		}
	}
}

// query grows a query of a right code: one that asks, one that is Grouped, or one that is not.
func (g *grower) query(t *testing.T, n int, service bool) api.Query {
	t.Helper()
	q := api.Query{Code: g.code(t, n, service), Limit: -1}
	inScope, _ := scope.InScope(q.Code, len(q.Code)-1)
	kind := g.r.IntN(5)
	if kind == 0 {
		q.Ask = true
		return q
	}
	q.Vars = some(g, inScope)
	if kind == 1 {
		q.Group = some(g, inScope)
		q.Vars = some(g, q.Group)
		for i := range g.r.IntN(4) {
			a := api.Agg{Kind: api.ACount, Name: "q" + strconv.Itoa(i)}
			if len(inScope) > 0 && g.r.IntN(5) > 0 {
				a.Kind, a.Over = 1+g.r.IntN(4), one(g, inScope...)
			}
			q.Aggs, q.Vars = append(q.Aggs, a), append(q.Vars, a.Name)
		}
		q.Grouped = len(q.Aggs) > 0 || len(q.Group) > 0
	}
	for range g.r.IntN(4) {
		if len(q.Vars) > 0 {
			q.Order = append(q.Order, api.Key{Name: one(g, q.Vars...), Desc: g.r.IntN(2) == 0})
		}
	}
	q.Distinct = g.r.IntN(2) == 0
	if g.r.IntN(3) == 0 {
		q.Offset = g.r.IntN(4)
	}
	if g.r.IntN(3) == 0 {
		q.Limit = g.r.IntN(5)
	}
	return q
}

// text grows a query's text; now and then one in which some bytes are others.
func (g *grower) text(t *testing.T) string {
	t.Helper()
	q := g.query(t, 6, true)
	s, e := print.Text(q)
	for e != api.OK || len(s) > api.MaxText {
		q = g.query(t, 6, true)
		s, e = print.Text(q)
	}
	switch g.r.IntN(6) {
	case 0:
		return g.changed(s)
	case 1:
		return strings.Replace(s, one(g, "?x", "?y", "{", "}", "SELECT", "WHERE", "<a>"), one(g, "?u", "?u", "", "{ }", "ASK", "1"), 1)
	}
	return s
}

// changed tells a text with one byte or two in another way.
func (g *grower) changed(s string) string {
	b := []byte(s)
	for range 1 + g.r.IntN(2) {
		i := g.r.IntN(len(b))
		b = slices.Replace(b, i, i+g.r.IntN(2), one(g, telling[g.r.IntN(len(telling))], byte('0'+g.r.IntN(10)), byte(g.r.IntN(256)), b[g.r.IntN(len(b))]))
	}
	return string(b)
}
