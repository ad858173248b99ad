package query_test

import (
	"slices"
	"strconv"
	"strings"
	"testing"

	"legation/api"
	"legation/formula"
	"legation/lex"
	"legation/scope"
	"legation/term"
	"legation/triples"
)

// The tests' own reading of the chapter: its rules as it writes them down, each answering all ways in which it may read words, and what the chapter makes of what was read. It leans on the layers below alone.

// node is what a rule has read: its name, its first word, and what rules have read in it.
type node struct {
	name  string
	word  api.Token
	parts []node
	asked []api.Part // of a formula
}

// reading is one way in which a rule may read words: up to the place end.
type reading struct {
	nodes []node
	end   int
}

type rule func(l []api.Token, at int) []reading

// one reads a word that fits.
func one(name string, fits func(t api.Token) bool) rule {
	return func(l []api.Token, at int) []reading {
		if at >= len(l) || !fits(l[at]) {
			return nil
		}
		return []reading{{[]node{{name: name, word: l[at]}}, at + 1}}
	}
}

// written reads the words that a text has with blanks between, each standing for itself.
func written(text string) rule {
	var all []rule
	for _, s := range strings.Fields(text) {
		kind := api.TSign
		if 'A' <= s[0] && s[0] <= 'Z' {
			kind = api.TWord
		}
		all = append(all, one(s, func(t api.Token) bool { return t.Kind == kind && t.Text == s }))
	}
	return row(all...)
}

// row reads what rules read one behind the other.
func row(rules ...rule) rule {
	return func(l []api.Token, at int) []reading {
		all := []reading{{nil, at}}
		for _, r := range rules {
			var more []reading
			for _, x := range all {
				for _, y := range r(l, x.end) {
					more = append(more, reading{slices.Concat(x.nodes, y.nodes), y.end})
				}
			}
			all = more
		}
		return all
	}
}

// either reads what one of some rules reads.
func either(rules ...rule) rule {
	return func(l []api.Token, at int) []reading {
		var all []reading
		for _, r := range rules {
			all = append(all, r(l, at)...)
		}
		return all
	}
}

func maybe(r rule) rule { return either(row(), r) }

// anyOf reads what a rule reads, as often as may be, or never.
func anyOf(r rule) rule {
	return func(l []api.Token, at int) []reading {
		all := []reading{{nil, at}}
		for last := all; len(last) > 0; {
			var more []reading
			for _, x := range last {
				for _, y := range r(l, x.end) {
					more = append(more, reading{slices.Concat(x.nodes, y.nodes), y.end})
				}
			}
			all, last = append(all, more...), more
		}
		return all
	}
}

func some(r rule) rule { return row(r, anyOf(r)) }

// named tells what a rule reads as one.
func named(name string, r rule) rule {
	return func(l []api.Token, at int) []reading {
		all := r(l, at)
		for i, x := range all {
			all[i].nodes = []node{{name: name, parts: x.nodes}}
		}
		return all
	}
}

var (
	aVariable = one("variable", func(t api.Token) bool { return t.Kind == api.TVar })
	anIri     = one("iri", func(t api.Token) bool { return t.Kind == api.TTerm && t.Term.Kind == api.Iri })
	aLiteral  = one("literal", func(t api.Token) bool { return t.Kind == api.TTerm && t.Term.Kind == api.Literal })
	aTerm     = one("term", func(t api.Token) bool { return t.Kind == api.TTerm || t.Kind == api.TVar })
	someDigit = one("digits", func(t api.Token) bool { return t.Kind == api.TNum && t.Text != "" && len(t.Text) < 10 })
)

func aQuery() rule {
	return either(row(written("ASK"), aGroup), row(written("SELECT"), maybe(written("DISTINCT")), columns(), written("WHERE"), aGroup,
		maybe(named("by", row(written("GROUP BY"), some(aVariable)))), maybe(named("order", row(written("ORDER BY"), some(aKey())))),
		maybe(named("limit", row(written("LIMIT"), someDigit))), maybe(named("offset", row(written("OFFSET"), someDigit)))))
}

func columns() rule {
	aggregate := either(written("COUNT ( * )"), row(either(written("COUNT"), written("SUM"), written("MIN"), written("MAX")), written("("), aVariable, written(")")))
	return either(written("*"), named("columns", some(either(aVariable, named("agg", row(written("("), aggregate, written("AS"), aVariable, written(")")))))))
}

func aKey() rule {
	return named("key", either(aVariable, row(either(written("ASC"), written("DESC")), written("("), aVariable, written(")"))))
}

func aGroup(l []api.Token, at int) []reading {
	return named("group", row(written("{"), anyOf(anElement), written("}")))(l, at)
}

func anElement(l []api.Token, at int) []reading {
	value := either(aTerm, written("UNDEF"), someDigit)
	values := named("row", row(written("("), anyOf(value), written(")")))
	return either(aTriple,
		named("FILTER", row(written("FILTER ("), aFormula, written(")"))),
		named("OPTIONAL", row(written("OPTIONAL"), aGroup)),
		named("MINUS", row(written("MINUS"), aGroup)),
		named("BIND", row(written("BIND ("), aFormula, written("AS"), aVariable, written(")"))),
		named("VALUES", row(written("VALUES ("), anyOf(aVariable), written(") {"), anyOf(values), written("}"))),
		named("SERVICE", row(written("SERVICE"), maybe(written("SILENT")), anIri, aGroup)),
		named("union", row(aGroup, anyOf(row(written("UNION"), aGroup)))),
	)(l, at)
}

func aTriple(l []api.Token, at int) []reading {
	thing := either(aVariable, anIri, aLiteral)
	all := named("triple", row(thing, thing, thing, written(".")))(l, at)
	return slices.DeleteFunc(all, func(x reading) bool { return triples.CheckPattern(tripleOf(x.nodes[0])) != api.OK })
}

func aFormula(l []api.Token, at int) []reading {
	f, end, e := formula.Parse(l, at)
	if e != api.OK {
		return nil
	}
	return []reading{{[]node{{name: "formula", asked: f}}, end}}
}

// all tells the parts of a node with that name.
func (n node) all(name string) []node {
	return slices.DeleteFunc(slices.Clone(n.parts), func(p node) bool { return p.name != name })
}

func (n node) has(name string) bool { return len(n.all(name)) > 0 }

// texts tells the texts of the words that a node's parts with that name are.
func (n node) texts(name string) []string {
	var l []string
	for _, p := range n.all(name) {
		l = append(l, p.word.Text)
	}
	return l
}

func termOf(t api.Token) api.Term {
	switch {
	case t.Kind == api.TVar:
		return api.Term{Kind: api.Var, Text: t.Text}
	case t.Kind == api.TNum:
		return api.Term{Kind: api.Literal, Text: t.Text, Type: api.TypeInteger}
	case t.Kind == api.TWord:
		return api.Term{}
	}
	return t.Term
}

func tripleOf(n node) api.Triple {
	return api.Triple{S: termOf(n.parts[0].word), P: termOf(n.parts[1].word), O: termOf(n.parts[2].word)}
}

// codeOf tells the code of a group's node.
func codeOf(n node) []api.Op {
	c := bareCodeOf(n)
	for _, p := range n.all("FILTER") {
		c = append(c, api.Op{Kind: api.OFilter, Formula: p.all("formula")[0].asked})
	}
	return c
}

// bareCodeOf tells the code of a group's node without its own filters.
func bareCodeOf(n node) []api.Op {
	var there []api.Op
	for i, p := range n.parts {
		joined := []api.Op{}
		switch p.name {
		case "triple":
			if n.parts[i-1].name == "triple" {
				continue // it went along with those ahead
			}
			joined = append(joined, basicOf(n.parts[i:]))
		case "VALUES":
			joined = append(joined, tableOf(p))
		case "SERVICE":
			name := p.all("iri")[0].word.Term.Text
			joined = append(codeOf(p.all("group")[0]), api.Op{Kind: api.OService, Name: name, Silent: p.has("SILENT")})
		case "union":
			for j, g := range p.all("group") {
				joined = append(joined, codeOf(g)...)
				if j > 0 {
					joined = append(joined, api.Op{Kind: api.OUnion})
				}
			}
		case "OPTIONAL", "MINUS", "BIND":
			if there == nil {
				there = []api.Op{{Kind: api.OBasic}}
			}
			there = append(there, behindOf(p)...)
			continue
		default:
			continue
		}
		first := there == nil
		there = append(there, joined...)
		if !first {
			there = append(there, api.Op{Kind: api.OJoin})
		}
	}
	if there == nil {
		return []api.Op{{Kind: api.OBasic}}
	}
	return there
}

// basicOf tells the OBasic of the triples that some nodes begin with.
func basicOf(l []node) api.Op {
	o := api.Op{Kind: api.OBasic}
	for _, p := range l {
		if p.name != "triple" {
			break
		}
		o.Triples = append(o.Triples, tripleOf(p))
	}
	return o
}

func tableOf(n node) api.Op {
	o := api.Op{Kind: api.OTable}
	o.Table.Vars = n.texts("variable")
	for _, r := range n.all("row") {
		var terms []api.Term
		for _, p := range r.parts[1 : len(r.parts)-1] {
			terms = append(terms, termOf(p.word))
		}
		o.Table.Rows = append(o.Table.Rows, terms)
	}
	return o
}

// behindOf tells the operations of an element that stands on what is there.
func behindOf(n node) []api.Op {
	switch n.name {
	case "MINUS":
		return append(codeOf(n.all("group")[0]), api.Op{Kind: api.OMinus})
	case "BIND":
		return []api.Op{{Kind: api.OExtend, Formula: n.all("formula")[0].asked, Name: n.texts("variable")[0]}}
	}
	g := n.all("group")[0]
	var f []api.Part
	for i, p := range g.all("FILTER") {
		f = append(f, p.all("formula")[0].asked...)
		if i > 0 {
			f = append(f, api.Part{Kind: api.XAnd})
		}
	}
	return append(bareCodeOf(g), api.Op{Kind: api.OLeft, Formula: f})
}

// queryOf tells the query of what the rule of queries has read.
func queryOf(n node) api.Query {
	q := api.Query{Limit: -1, Code: codeOf(n.all("group")[0])}
	if n.has("ASK") {
		q.Ask = true
		return q
	}
	q.Distinct = n.has("DISTINCT")
	if n.has("*") {
		q.Vars, _ = scope.InScope(q.Code, len(q.Code)-1)
	}
	for _, c := range n.all("columns") {
		for _, p := range c.parts {
			if p.name == "variable" {
				q.Vars = append(q.Vars, p.word.Text)
				continue
			}
			a := aggOf(p)
			q.Vars, q.Aggs = append(q.Vars, a.Name), append(q.Aggs, a)
		}
	}
	for _, p := range n.all("by") {
		q.Group = p.texts("variable")
	}
	q.Grouped = n.has("by") || len(q.Aggs) > 0
	for _, p := range n.all("order") {
		for _, k := range p.all("key") {
			q.Order = append(q.Order, api.Key{Name: k.texts("variable")[0], Desc: k.has("DESC")})
		}
	}
	for _, p := range n.all("limit") {
		q.Limit, _ = strconv.Atoi(p.texts("digits")[0])
	}
	for _, p := range n.all("offset") {
		q.Offset, _ = strconv.Atoi(p.texts("digits")[0])
	}
	return q
}

func aggOf(n node) api.Agg {
	v := n.texts("variable")
	a := api.Agg{Kind: 1 + slices.Index([]string{"COUNT", "SUM", "MIN", "MAX"}, n.parts[1].name), Name: v[len(v)-1]}
	if !n.has("*") {
		a.Over = v[0]
	}
	return a
}

// plainParse tells the query of a text, or the errors that may be answered of it.
func plainParse(t *testing.T, s string) (api.Query, []api.Errno) {
	t.Helper()
	l, _, e := lex.Lex(s)
	if e != api.OK {
		return api.Query{}, []api.Errno{e}
	}
	whole := slices.DeleteFunc(aQuery()(l, 0), func(x reading) bool { return x.end < len(l) })
	switch len(whole) {
	case 0:
		return api.Query{}, []api.Errno{api.ErrForm}
	case 1:
		q := queryOf(node{parts: whole[0].nodes})
		return q, plainCheck(q)
	}
	t.Fatalf("%q is read in %d ways", s, len(whole))
	return api.Query{}, nil
}

// plainCode tells the code of the group at a place, and the place behind it, or the error.
func plainCode(l []api.Token, at int) ([]api.Op, int, api.Errno) {
	if at < 0 || at > len(l) {
		return nil, 0, api.ErrRange
	}
	all := aGroup(l, at)
	if len(all) != 1 {
		return nil, 0, api.ErrForm
	}
	c := codeOf(all[0].nodes[0])
	return c, all[0].end, scope.Check(c)
}

// plainCheck tells the errors that may be answered of a query: mostly just one. Both may of one that has no columns and is Grouped for its Group, since the chapter leaves open whether Grouped is as it must be there.
func plainCheck(q api.Query) []api.Errno {
	if e := scope.Check(q.Code); e != api.OK {
		return []api.Errno{e}
	}
	names, err := scope.InScope(q.Code, len(q.Code)-1)
	if err != api.OK {
		return []api.Errno{err}
	}
	switch inScope := counted(names); {
	case q.Ask && !isJustAsked(q), !q.Ask && hasNoForm(q):
		return []api.Errno{api.ErrForm}
	case q.Ask || isRightScoped(q, inScope):
		return []api.Errno{api.OK}
	}
	if q.Grouped && len(q.Vars) == 0 {
		return []api.Errno{api.ErrForm, api.ErrScope}
	}
	return []api.Errno{api.ErrScope}
}

// counted tells how often each name stands in a list.
func counted(l []string) map[string]int {
	m := map[string]int{}
	for _, s := range l {
		m[s]++
	}
	return m
}

func isJustAsked(q api.Query) bool {
	return len(q.Vars) == 0 && len(q.Aggs) == 0 && len(q.Group) == 0 && len(q.Order) == 0 && !q.Distinct && !q.Grouped && q.Limit == -1 && q.Offset == 0
}

// hasNoForm tells whether a query is wrong whatever is in scope.
func hasNoForm(q api.Query) bool {
	if q.Limit != -1 && (q.Limit < 0 || q.Limit >= 1e9) || q.Offset < 0 || q.Offset >= 1e9 || q.Grouped != (len(q.Aggs)+len(q.Group) > 0) {
		return true
	}
	if len(q.Vars) > 32 || len(q.Aggs) > 8 || len(q.Group) > 32 || len(q.Order) > 32 {
		return true
	}
	var names []string
	for _, a := range q.Aggs {
		if a.Kind < 1 || a.Kind > 4 {
			return true
		}
		names = append(names, a.Name)
	}
	wrong := func(s string) bool { return !term.IsName(s) }
	if hasOddNames(q) || slices.ContainsFunc(q.Vars, wrong) || slices.ContainsFunc(q.Group, wrong) {
		return true
	}
	return len(counted(q.Vars)) < len(q.Vars) || len(counted(q.Group)) < len(q.Group) || len(counted(names)) < len(names)
}

// hasOddNames tells whether an aggregate or a key has a name that is none: of COUNT alone Over may be empty.
func hasOddNames(q api.Query) bool {
	return slices.ContainsFunc(q.Aggs, func(a api.Agg) bool {
		return !term.IsName(a.Name) || !term.IsName(a.Over) && (a.Over != "" || a.Kind != api.ACount)
	}) || slices.ContainsFunc(q.Order, func(k api.Key) bool { return !term.IsName(k.Name) })
}

// isRightScoped tells whether all names of a query that has a form are where they may be.
func isRightScoped(q api.Query, inScope map[string]int) bool {
	var names []string
	for _, a := range q.Aggs {
		if inScope[a.Name] > 0 || a.Over != "" && inScope[a.Over] == 0 {
			return false
		}
		names = append(names, a.Name)
	}
	aggs, columns, group := counted(names), counted(q.Vars), counted(q.Group)
	if !slices.Equal(names, slices.DeleteFunc(slices.Clone(q.Vars), func(s string) bool { return aggs[s] == 0 })) {
		return false
	}
	for _, s := range q.Vars {
		if aggs[s] == 0 && (inScope[s] == 0 || q.Grouped && group[s] == 0) {
			return false
		}
	}
	for _, k := range q.Order {
		if columns[k.Name] == 0 {
			return false
		}
	}
	for _, s := range q.Group {
		if inScope[s] == 0 {
			return false
		}
	}
	return len(q.Vars) > 0 || len(inScope) == 0 && !q.Grouped
}
