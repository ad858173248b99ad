package print_test

import (
	"fmt"
	"math/rand/v2"
	"slices"

	"legation/api"
)

// grower grows right codes and queries by chance.
type grower struct {
	r     *rand.Rand
	names int // of OExtend, so that none comes twice
}

func newGrower(seed uint64) *grower {
	return &grower{r: rand.New(rand.NewPCG(9, seed))}
}

func one[T any](g *grower, l ...T) T { return l[g.r.IntN(len(l))] }

// tree grows a tree of at most so many operations in one another; a service in it just where it may be.
func (g *grower) tree(deep int, service bool) tree {
	kind := one(g, api.OBasic, api.OTable)
	if deep > 1 {
		kind = 1 + g.r.IntN(9)
	}
	n := tree{op: api.Op{Kind: kind}}
	switch kind {
	case api.OBasic:
		for range one(g, 0, 1, 1, 2, 3) {
			n.op.Triples = append(n.op.Triples, g.triple())
		}
	case api.OTable:
		n.op.Table = g.table()
	case api.OService:
		if !service {
			return g.tree(deep, false)
		}
		n.op.Name, n.op.Silent = one(g, "e", "http://e/?q=1#a", "a.b"), one(g, true, false)
		n.needs = []tree{g.tree(deep-1, false)}
	case api.OFilter, api.OExtend:
		n.op.Formula = g.formula(1 + g.r.IntN(9))
		n.needs = []tree{g.tree(deep-1, service)}
		if kind == api.OExtend {
			g.names++
			n.op.Name = fmt.Sprintf("e_%d", g.names)
		}
	default:
		if kind == api.OLeft && g.r.IntN(2) == 0 {
			n.op.Formula = g.formula(1 + g.r.IntN(9))
		}
		n.needs = []tree{g.tree(deep-1, service), g.tree(deep-1, service)}
	}
	return n
}

func (g *grower) variable() api.Term {
	return api.Term{Kind: api.Var, Text: one(g, "x", "y", "z", "X_1", "a2345678901234567890123456789012")}
}

func (g *grower) iri() api.Term {
	return api.Term{Kind: api.Iri, Text: one(g, "a", "b", "http://e/a?b=c&d=(e)#f", "!=", "1.5", "?x", "'", "~")}
}

func (g *grower) literal() api.Term {
	t := api.Term{Kind: api.Literal, Text: one(g, "", "a", "1", "-1.50", "true", "\"", "\\", "\n", "\t", "a \"b\" \\ \n\t . } ) # ?x <a>", "\\n", "\\\"", " ")}
	switch g.r.IntN(4) {
	case 0:
		t.Type = one(g, api.TypeInteger, api.TypeDecimal, api.TypeBoolean, api.TypeString, "t")
	case 1:
		t.Lang = one(g, "en", "a", "abcdefgh")
	}
	return t
}

func (g *grower) triple() api.Triple {
	return api.Triple{S: one(g, g.variable, g.iri)(), P: one(g, g.iri, g.variable)(), O: one(g, g.variable, g.iri, g.literal)()}
}

func (g *grower) table() api.Table {
	var t api.Table
	for _, s := range []string{"x", "y", "z", "w"} {
		if g.r.IntN(3) == 0 {
			t.Vars = append(t.Vars, s)
		}
	}
	none := func() api.Term { return api.Term{} }
	for range g.r.IntN(4) {
		var row []api.Term
		for range t.Vars {
			row = append(row, one(g, g.iri, g.literal, none)())
		}
		t.Rows = append(t.Rows, row)
	}
	return t
}

// formula grows a formula of at least so many parts.
func (g *grower) formula(least int) []api.Part {
	var f []api.Part
	for results := 0; results != 1 || len(f) < least; {
		p := api.Part{Kind: 1 + g.r.IntN(26)}
		needs := 1
		switch {
		case p.Kind == api.XTerm:
			needs, p.Term = 0, one(g, g.iri, g.literal)()
		case p.Kind <= api.XBound:
			needs, p.Name = 0, g.variable().Text
		case api.XAnd <= p.Kind && p.Kind <= api.XDiv, p.Kind == api.XSame:
			needs = 2
		case p.Kind == api.XIf:
			needs = 3
		case p.Kind == api.XCoalesce:
			needs = 1 + g.r.IntN(4)
			p.N = needs
		}
		if needs > results || results > 3 && needs < 2 {
			continue
		}
		f = append(f, p)
		results += 1 - needs
	}
	return f
}

// query grows a right query, and the tree of its code.
func (g *grower) query() (api.Query, tree) {
	n := g.tree(1+g.r.IntN(5), true)
	q := api.Query{Limit: -1, Code: n.code()}
	inScope := n.inScope()
	if q.Ask = g.r.IntN(4) == 0; q.Ask {
		return q, n
	}
	q.Limit, q.Offset = one(g, -1, -1, 0, 1, 7, 10, 999999999), one(g, 0, 0, 1, 10, 999999999)
	q.Distinct = one(g, true, false)
	columns := g.some(inScope)
	if g.r.IntN(2) == 0 {
		q.Group, columns = columns, g.some(columns)
		q.Grouped = len(q.Group) > 0
		for i := range g.r.IntN(4) {
			a := api.Agg{Kind: api.ACount, Name: fmt.Sprintf("n%d", i)}
			if len(inScope) > 0 && g.r.IntN(3) > 0 {
				a.Kind, a.Over = 1+g.r.IntN(4), one(g, inScope...)
			}
			q.Aggs, q.Grouped = append(q.Aggs, a), true
		}
	}
	if q.Grouped && len(q.Aggs) == 0 && len(columns) == 0 {
		columns = q.Group[:1:1]
	}
	if !q.Grouped && len(columns) == 0 {
		columns = inScope
	}
	q.Vars = g.shuffled(columns, q.Aggs)
	for range g.r.IntN(4) {
		if len(q.Vars) > 0 {
			q.Order = append(q.Order, api.Key{Name: one(g, q.Vars...), Desc: one(g, true, false)})
		}
	}
	return q, n
}

// some tells some of a list's names, or none, in any order.
func (g *grower) some(l []string) []string {
	l = slices.Clone(l)
	g.r.Shuffle(len(l), func(i, j int) { l[i], l[j] = l[j], l[i] })
	return l[:g.r.IntN(len(l)+1)]
}

// shuffled lays aggregates' names among some columns, in their order.
func (g *grower) shuffled(columns []string, l []api.Agg) []string {
	columns = slices.Clone(columns)
	at := 0
	for _, a := range l {
		at += g.r.IntN(len(columns) - at + 1)
		columns = slices.Insert(columns, at, a.Name)
		at++
	}
	return columns
}
