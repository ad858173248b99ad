package print_test

import (
	"fmt"
	"slices"
	"strings"

	"legation/api"
	"legation/formula"
	"legation/term"
)

// The tests' own reading of the chapter: texts of a code that stands as a tree, each put into the form that the chapter writes for its Kind.

// tree is an operation, and the trees of what it needs.
type tree struct {
	op    api.Op
	needs []tree
}

// code tells the operations of a tree, each behind what it needs.
func (n tree) code() []api.Op {
	var c []api.Op
	for _, x := range n.needs {
		c = append(c, x.code()...)
	}
	return append(c, n.op)
}

// text tells a tree's text.
func (n tree) text() string {
	var a, b string
	if len(n.needs) > 0 {
		a = n.needs[0].text()
	}
	if len(n.needs) > 1 {
		b = n.needs[1].text()
	}
	f, _ := formula.Text(n.op.Formula)
	switch n.op.Kind {
	case api.OBasic:
		var l []string
		for _, x := range n.op.Triples {
			l = append(l, termText(x.S), termText(x.P), termText(x.O), ".")
		}
		return put("{ # }", strings.Join(l, " "))
	case api.OTable:
		var rows []string
		for _, row := range n.op.Table.Rows {
			rows = append(rows, put("( # )", strings.Join(mapped(row, termText), " ")))
		}
		return put("{ VALUES ( # ) { # } }", strings.Join(mapped(n.op.Table.Vars, varText), " "), strings.Join(rows, " "))
	case api.OJoin:
		return put("{ # # }", a, b)
	case api.OUnion:
		return put("{ # UNION # }", a, b)
	case api.OMinus:
		return put("{ # MINUS # }", a, b)
	case api.OLeft:
		if len(n.op.Formula) == 0 {
			return put("{ # OPTIONAL { # } }", a, b)
		}
		return put("{ # OPTIONAL { # FILTER ( # ) } }", a, b, f)
	case api.OFilter:
		return put("{ # FILTER ( # ) }", a, f)
	case api.OExtend:
		return put("{ # BIND ( # AS ?# ) }", a, f, n.op.Name)
	}
	if n.op.Silent {
		return put("{ SERVICE SILENT <#> # }", n.op.Name, a)
	}
	return put("{ SERVICE <#> # }", n.op.Name, a)
}

// queryText tells the text of a query whose code is the tree's.
func queryText(q api.Query, n tree) string {
	if q.Ask {
		return put("ASK #", n.text())
	}
	columns := mapped(q.Vars, func(s string) string {
		for _, a := range q.Aggs {
			if a.Name == s {
				over := "*"
				if a.Over != "" {
					over = "?" + a.Over
				}
				return put("( # ( # ) AS ?# )", []string{"", "COUNT", "SUM", "MIN", "MAX"}[a.Kind], over, s)
			}
		}
		return "?" + s
	})
	if len(columns) == 0 {
		columns = []string{"*"}
	}
	s := "SELECT"
	if q.Distinct {
		s += " DISTINCT"
	}
	s += put(" # WHERE #", strings.Join(columns, " "), n.text())
	if len(q.Group) > 0 {
		s += put(" GROUP BY #", strings.Join(mapped(q.Group, varText), " "))
	}
	if len(q.Order) > 0 {
		s += put(" ORDER BY #", strings.Join(mapped(q.Order, func(k api.Key) string {
			if k.Desc {
				return put("DESC ( ?# )", k.Name)
			}
			return put("ASC ( ?# )", k.Name)
		}), " "))
	}
	if q.Limit != -1 {
		s += fmt.Sprintf(" LIMIT %d", q.Limit)
	}
	if q.Offset != 0 {
		s += fmt.Sprintf(" OFFSET %d", q.Offset)
	}
	return s
}

// put puts texts where a form has #, an empty one with no more than one blank around it.
func put(form string, texts ...string) string {
	var b strings.Builder
	for i, piece := range strings.Split(form, "#") {
		if i > 0 && texts[i-1] == "" {
			piece = strings.TrimPrefix(piece, " ")
		} else if i > 0 {
			b.WriteString(texts[i-1])
		}
		b.WriteString(piece)
	}
	return b.String()
}

func varText(name string) string { return "?" + name }

// termText tells a term's text; of None, what stands for it in a table.
func termText(t api.Term) string {
	if t.Kind == api.None {
		return "UNDEF"
	}
	s, _ := term.Text(t)
	return s
}

func mapped[A, B any](l []A, f func(A) B) []B {
	var to []B
	for _, x := range l {
		to = append(to, f(x))
	}
	return to
}

// inScope tells the names in scope in a tree's result, in order.
func (n tree) inScope() []string {
	l := slices.Clone(n.op.Table.Vars)
	for _, x := range n.op.Triples {
		for _, t := range []api.Term{x.S, x.P, x.O} {
			if t.Kind == api.Var {
				l = append(l, t.Text)
			}
		}
	}
	for i, x := range n.needs {
		if i == 0 || n.op.Kind != api.OMinus {
			l = append(l, x.inScope()...)
		}
	}
	if n.op.Kind == api.OExtend {
		l = append(l, n.op.Name)
	}
	slices.Sort(l)
	return slices.Compact(l)
}
