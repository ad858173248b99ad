package print_test

import (
	"slices"
	"strings"
	"testing"

	"legation/api"
	"legation/print"
	"legation/query"
	"legation/scope"
)

// someOps tells operations of each Kind, with what is told of it otherwise in turns.
func someOps() []api.Op {
	table := api.Table{Vars: []string{"y", "x"}, Rows: [][]api.Term{{iri("a"), {}}}}
	return []api.Op{basic(), xay(), {Kind: api.OTable, Table: table}, {Kind: api.OTable}, {Kind: api.OJoin}, {Kind: api.OUnion}, {Kind: api.OLeft}, {Kind: api.OLeft, Formula: equals()}, {Kind: api.OMinus},
		{Kind: api.OFilter, Formula: equals()}, {Kind: api.OExtend, Formula: equals(), Name: "z"}, {Kind: api.OService, Name: "e"}, {Kind: api.OService, Name: "f", Silent: true}, {Kind: api.OFilter}, {}}
}

// P9.1, P9.2: each short row of operations: scope.Check's error, or a text of which the row is read.
func TestCodeOfShortRows(t *testing.T) {
	count := map[api.Errno]int{}
	var grow func(c []api.Op, n int)
	grow = func(c []api.Op, n int) {
		want := scope.Check(c)
		count[want]++
		if want == api.OK {
			checkReadBack(t, c)
		} else if s, e := print.Code(c); s != "" || e != want {
			t.Errorf("%s: %s %d; not %d", brief(c), brief(s), e, want)
		}
		for _, o := range someOps() {
			if n > 0 {
				grow(append(c[:len(c):len(c)], o), n-1)
			}
		}
	}
	grow(nil, 4)
	if count[api.OK] < 1000 || count[api.ErrScope] < 20 || count[api.ErrForm] < 1000 {
		t.Errorf("%v", count)
	}
}

// treeOf tells the tree of a right code.
func treeOf(c []api.Op) tree {
	var open []tree
	for _, o := range c {
		n := len(open) - scope.Needs(o)
		open = append(open[:n], tree{o, slices.Clone(open[n:])})
	}
	return open[0]
}

// P9.1, P9.2: grown codes and queries, their texts held against the chapter's forms.
func TestTextOfGrown(t *testing.T) {
	g := newGrower(1)
	kinds, short := map[int]int{}, 0
	for range 6000 {
		q, n := g.query()
		if e := query.Check(q); e != api.OK { // too many operations
			checkNoText(t, e, q)
			continue
		}
		for _, o := range q.Code {
			kinds[o.Kind]++
		}
		checkCode(t, q.Code, n.text())
		checkReadBack(t, q.Code)
		checkText(t, q, queryText(q, n))
		if checkParsedBack(t, q) {
			short++
		}
		if t.Failed() {
			t.FailNow()
		}
	}
	for kind := api.OBasic; kind <= api.OService; kind++ {
		if kinds[kind] < 500 {
			t.Errorf("%d operations of the kind %d", kinds[kind], kind)
		}
	}
	if short < 5000 {
		t.Errorf("%d texts were short", short)
	}
}

// checkThere holds that the text of what is parsed of a text is parsed to the same, and is the text again.
func checkThere(t *testing.T, s string) {
	t.Helper()
	q, e := query.Parse(s)
	if e != api.OK {
		t.Fatalf("%s: %d", brief(s), e)
	}
	checkText(t, q, queryText(q, treeOf(q.Code)))
	if checkParsedBack(t, q) {
		text, _ := print.Text(q)
		back, _ := query.Parse(text)
		checkText(t, back, text)
	}
}

// P9.3: texts as queries have them, not as they are printed.
func TestTextsThereAndBack(t *testing.T) {
	for _, s := range []string{
		"ASK{}", "\n\tASK { } ", "ASK { { } }", "ASK { { { } } { } }", "SELECT*WHERE{?x<a>?y.?y<b>?z.}", "SELECT ?x WHERE { ?x <a> ?y . } OFFSET 000 ",
		"ASK { ?x <a> ?y . FILTER(?x=1||!?y<2.50&&TRUE) FILTER(-?x+1*2/?y-3>=0) ?x <b> \"c\" . }", "ASK { FILTER ( COALESCE ( ?x , IF ( BOUND ( ?x ) , STR ( ?x ) , LANG(?y) ) , 1 ) ) }",
		"ASK { OPTIONAL { } OPTIONAL { FILTER ( 1 ) FILTER ( 2 ) FILTER ( 3 ) } OPTIONAL { { ?x <a> ?y . FILTER ( 4 ) } } }", "ASK { OPTIONAL { OPTIONAL { FILTER ( ?x ) ?y <a> ?x . } FILTER ( ?y ) } }",
		"ASK { MINUS { ?x <a> ?y . FILTER ( ?x ) } MINUS { } }", "SELECT ?w ?x WHERE { BIND ( 1 AS ?x ) BIND ( ?x + 1 AS ?y ) ?x <a> ?z . BIND ( FALSE AS ?w ) }",
		"SELECT * WHERE { VALUES ( ) { } VALUES ( ) { ( ) ( ) } VALUES ( ?x ?y ) { ( 007 UNDEF ) ( \"\\\"\\n\" 1.50 ) } }",
		"ASK { SERVICE <e> { ?x <a> ?y . } SERVICE SILENT <e> { { } UNION { OPTIONAL { } } } }", "SELECT * WHERE { { } UNION { ?x <a> ?y . } UNION { { } UNION { } } ?z <b> ?w . }",
		"SELECT ?y(COUNT(*)AS?n)?x(SUM(?z)AS?m)(COUNT(?z)AS?k)WHERE{?x<a>?y.?z<b>?y.}GROUP BY?x?z?y ORDER BY?n DESC(?m)ASC(?x)?n LIMIT 0 OFFSET 010", "SELECT DISTINCT * WHERE { ?x ?y ?z . } GROUP BY ?z ?y ?x ORDER BY ?x LIMIT 999999999 OFFSET 999999999",
		"SELECT ( MIN ( ?x ) AS ?a ) ( MAX ( ?x ) AS ?b ) WHERE { ?x <a> ?y . }", "ASK { " + strings.Repeat("FILTER(1)", 127) + " }", "ASK " + strings.Repeat("{", 1000) + strings.Repeat("}", 1000), "ASK {" + strings.Repeat(" OPTIONAL {", 60) + strings.Repeat("}", 61),
	} {
		checkThere(t, s)
	}
}

// P9.3: grown texts with a word or two taken out or put elsewhere, where they are queries' still.
func TestChangedTextsThereAndBack(t *testing.T) {
	g := newGrower(2)
	parsed := 0
	for range 8000 {
		q, _ := g.query()
		s, e := print.Text(q)
		if e != api.OK {
			continue
		}
		words := strings.Fields(s)
		for range 1 + g.r.IntN(2) {
			i, j := g.r.IntN(len(words)), g.r.IntN(len(words))
			if g.r.IntN(2) == 0 {
				words[i] = words[j]
			} else {
				words = slices.Delete(words, i, min(i+1+g.r.IntN(2), len(words)-1))
			}
		}
		s = strings.Join(words, one(g, " ", "\n", "  \t"))
		if _, e := query.Parse(s); e == api.OK {
			parsed++
			checkThere(t, s)
		}
		if t.Failed() {
			t.FailNow()
		}
	}
	if parsed < 300 {
		t.Errorf("%d texts were parsed", parsed)
	}
}

// P9.1: what is handed in is as it was, also behind its lists' ends, and the same text is told again.
func TestUntouched(t *testing.T) {
	g := newGrower(3)
	for range 300 {
		q, n := g.query()
		q.Code = append(n.code(), api.Op{Kind: -7})[:len(q.Code)]
		q.Vars = append(q.Vars, "room")[:len(q.Vars)]
		q.Aggs = append(q.Aggs, api.Agg{Kind: -7})[:len(q.Aggs)]
		q.Group = append(q.Group, "room")[:len(q.Group)]
		q.Order = append(q.Order, api.Key{Name: "room"})[:len(q.Order)]
		was := q
		was.Code, was.Vars, was.Aggs, was.Group, was.Order = n.code(), slices.Clone(q.Vars), slices.Clone(q.Aggs), slices.Clone(q.Group), slices.Clone(q.Order)
		first, _ := print.Text(q)
		code, _ := print.Code(q.Code)
		if again, _ := print.Text(q); again != first || !strings.Contains(first, code) || !same(q, was) {
			t.Fatalf("%s: changed", brief(was))
		}
		if q.Code[:len(q.Code)+1][len(q.Code)].Kind != -7 || q.Vars[:len(q.Vars)+1][len(q.Vars)] != "room" || q.Aggs[:len(q.Aggs)+1][len(q.Aggs)].Kind != -7 || q.Group[:len(q.Group)+1][len(q.Group)] != "room" || q.Order[:len(q.Order)+1][len(q.Order)].Name != "room" {
			t.Fatalf("%s: what lies behind a list was changed", brief(was))
		}
	}
}
