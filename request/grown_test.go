package request_test

import (
	"fmt"
	"math/rand/v2"
	"slices"

	"legation/api"
)

// grower grows right codes and queries by chance.
type grower struct {
	r     *rand.Rand
	names int // of OExtend, so that none comes twice
}

func newGrower(seed uint64) *grower {
	return &grower{r: rand.New(rand.NewPCG(16, seed))}
}

func one[T any](g *grower, l ...T) T { return l[g.r.IntN(len(l))] }

// code grows a code of at most so many operations in one another, and tells the names in scope; a service in it just where it may be.
func (g *grower) code(deep int, service bool) ([]api.Op, []string) {
	o := api.Op{Kind: one(g, api.OBasic, api.OTable)}
	if deep > 1 {
		o.Kind = 1 + g.r.IntN(9)
	}
	if o.Kind == api.OService && !service {
		o.Kind = api.OJoin
	}
	if o.Kind <= api.OTable {
		return g.leaf(o)
	}
	c, names := g.code(deep-1, service && o.Kind != api.OService)
	switch o.Kind {
	case api.OService:
		o.Name, o.Silent = one(g, "e", "http://e/?q=1#a", "a.b"), one(g, true, false)
	case api.OFilter, api.OExtend:
		o.Formula = g.formula(1 + g.r.IntN(9))
		if o.Kind == api.OExtend {
			g.names++
			o.Name = fmt.Sprintf("e_%d", g.names)
			names = append(names, o.Name)
		}
	default:
		if o.Kind == api.OLeft && g.r.IntN(2) == 0 {
			o.Formula = g.formula(1 + g.r.IntN(9))
		}
		d, more := g.code(deep-1, service)
		c = append(c, d...)
		if o.Kind != api.OMinus {
			names = append(names, more...)
		}
	}
	slices.Sort(names)
	return append(c, o), slices.Compact(names)
}

// leaf grows an operation that needs none.
func (g *grower) leaf(o api.Op) ([]api.Op, []string) {
	if o.Kind == api.OTable {
		o.Table = g.table()
		return []api.Op{o}, slices.Clone(o.Table.Vars)
	}
	var names []string
	for range one(g, 0, 1, 1, 2, 3) {
		x := g.triple()
		o.Triples = append(o.Triples, x)
		for _, t := range []api.Term{x.S, x.P, x.O} {
			if t.Kind == api.Var {
				names = append(names, t.Text)
			}
		}
	}
	slices.Sort(names)
	return []api.Op{o}, slices.Compact(names)
}

func (g *grower) variable() api.Term {
	return api.Term{Kind: api.Var, Text: one(g, "x", "y", "z", "X_1", "a2345678901234567890123456789012")}
}

func (g *grower) iri() api.Term {
	return api.Term{Kind: api.Iri, Text: one(g, "a", "b", "http://e/a?b=c&d=(e)#f", "!=", "1.5", "?x", "'", "~")}
}

func (g *grower) literal() api.Term {
	t := api.Term{Kind: api.Literal, Text: one(g, "", "a", "1", "-1.50", "true", "\"", "\\", "\n", "\t", "a \"b\" \\ \n\t . } ) # ?x <a>", "\\n", "\\\"", " ")}
	switch g.r.IntN(4) {
	case 0:
		t.Type = one(g, api.TypeInteger, api.TypeDecimal, api.TypeBoolean, api.TypeString, "t")
	case 1:
		t.Lang = one(g, "en", "a", "abcdefgh")
	}
	return t
}

func (g *grower) triple() api.Triple {
	return api.Triple{S: one(g, g.variable, g.iri)(), P: one(g, g.iri, g.variable)(), O: one(g, g.variable, g.iri, g.literal)()}
}

func (g *grower) table() api.Table {
	var t api.Table
	for _, s := range []string{"x", "y", "z", "w"} {
		if g.r.IntN(3) == 0 {
			t.Vars = append(t.Vars, s)
		}
	}
	none := func() api.Term { return api.Term{} }
	for range g.r.IntN(4) {
		var row []api.Term
		for range t.Vars {
			row = append(row, one(g, g.iri, g.literal, none)())
		}
		t.Rows = append(t.Rows, row)
	}
	return t
}

// formula grows a formula of at least so many parts.
func (g *grower) formula(least int) []api.Part {
	var f []api.Part
	for results := 0; results != 1 || len(f) < least; {
		p := api.Part{Kind: 1 + g.r.IntN(26)}
		needs := 1
		switch {
		case p.Kind == api.XTerm:
			needs, p.Term = 0, one(g, g.iri, g.literal)()
		case p.Kind <= api.XBound:
			needs, p.Name = 0, g.variable().Text
		case api.XAnd <= p.Kind && p.Kind <= api.XDiv, p.Kind == api.XSame:
			needs = 2
		case p.Kind == api.XIf:
			needs = 3
		case p.Kind == api.XCoalesce:
			needs = 1 + g.r.IntN(4)
			p.N = needs
		}
		if needs > results || results > 3 && needs < 2 {
			continue
		}
		f = append(f, p)
		results += 1 - needs
	}
	return f
}

// query grows a right query, but that its operations may be too many, and its text too long.
func (g *grower) query() api.Query {
	c, inScope := g.code(1+g.r.IntN(5), true)
	if g.r.IntN(12) == 0 {
		for range one(g, 20, 60, 120, 130) {
			c = append(c, api.Op{Kind: api.OFilter, Formula: g.formula(1 + g.r.IntN(9))})
		}
	}
	q := api.Query{Limit: -1, Code: c}
	if q.Ask = g.r.IntN(4) == 0; q.Ask {
		return q
	}
	q.Limit, q.Offset = one(g, -1, -1, 0, 1, 7, 10, 999999999), one(g, 0, 0, 1, 10, 999999999)
	q.Distinct = one(g, true, false)
	columns := g.some(inScope)
	if g.r.IntN(2) == 0 {
		q.Group, columns = columns, g.some(columns)
		q.Grouped = len(q.Group) > 0
		for i := range g.r.IntN(4) {
			a := api.Agg{Kind: api.ACount, Name: fmt.Sprintf("n%d", i)}
			if len(inScope) > 0 && g.r.IntN(3) > 0 {
				a.Kind, a.Over = 1+g.r.IntN(4), one(g, inScope...)
			}
			q.Aggs, q.Grouped = append(q.Aggs, a), true
		}
	}
	if q.Grouped && len(q.Aggs) == 0 && len(columns) == 0 {
		columns = q.Group[:1:1]
	}
	if !q.Grouped && len(columns) == 0 {
		columns = inScope
	}
	q.Vars = g.shuffled(columns, q.Aggs)
	for range g.r.IntN(4) {
		if len(q.Vars) > 0 {
			q.Order = append(q.Order, api.Key{Name: one(g, q.Vars...), Desc: one(g, true, false)})
		}
	}
	return q
}

// request grows a right request of any bytes, or of those that matter most here.
func (g *grower) request() api.Request {
	return api.Request{Id: one(g, g.r.IntN(10), g.r.IntN(100), g.r.IntN(4096)), Text: g.text(one(g, 4, 12, 12, 60))}
}

// text grows one of fewer than n bytes.
func (g *grower) text(n int) string {
	b := make([]byte, g.r.IntN(n))
	for i := range b {
		b[i] = one(g, byte(g.r.IntN(256)), telling[g.r.IntN(len(telling))])
	}
	return string(b)
}

// some tells some of a list's names, or none, in any order.
func (g *grower) some(l []string) []string {
	l = slices.Clone(l)
	g.r.Shuffle(len(l), func(i, j int) { l[i], l[j] = l[j], l[i] })
	return l[:g.r.IntN(len(l)+1)]
}

// shuffled lays aggregates' names among some columns, in their order.
func (g *grower) shuffled(columns []string, l []api.Agg) []string {
	columns = slices.Clone(columns)
	at := 0
	for _, a := range l {
		at += g.r.IntN(len(columns) - at + 1)
		columns = slices.Insert(columns, at, a.Name)
		at++
	}
	return columns
}
