package print_test

import (
	"fmt"
	"math"
	"slices"
	"strings"
	"testing"

	"legation/api"
	"legation/lex"
	"legation/print"
	"legation/query"
	"legation/scope"
)

// brief tells what a failure's line has room for.
func brief(x any) string { return fmt.Sprintf("%.600s", fmt.Sprintf("%+v", x)) }

// same tells whether two things are alike, lists without elements being nil's like.
func same[T any](a, b T) bool {
	whole := func(x T) string { return strings.ReplaceAll(fmt.Sprintf("%#v", x), "(nil)", "{}") }
	return whole(a) == whole(b)
}

func checkCode(t *testing.T, c []api.Op, want string) {
	t.Helper()
	if s, e := print.Code(c); s != want || e != api.OK {
		t.Errorf("%s: %s %d; not %s", brief(c), brief(s), e, brief(want))
	}
}

func checkText(t *testing.T, q api.Query, want string) {
	t.Helper()
	if s, e := print.Text(q); s != want || e != api.OK {
		t.Errorf("%s: %s %d; not %s", brief(q), brief(s), e, brief(want))
	}
}

func checkNoCode(t *testing.T, want api.Errno, codes ...[]api.Op) {
	t.Helper()
	for _, c := range codes {
		if s, e := print.Code(c); s != "" || e != want || scope.Check(c) != want {
			t.Errorf("%s: %s %d; not %d", brief(c), brief(s), e, want)
		}
		for _, q := range []api.Query{{Ask: true, Limit: -1, Code: c}, {Vars: []string{"x"}, Limit: -2, Code: c}} {
			checkNoText(t, want, q)
		}
	}
}

func checkNoText(t *testing.T, want api.Errno, queries ...api.Query) {
	t.Helper()
	for _, q := range queries {
		if s, e := print.Text(q); s != "" || e != want || query.Check(q) != want {
			t.Errorf("%s: %s %d; not %d", brief(q), brief(s), e, want)
		}
	}
}

// checkReadBack holds that what is read of a code's text is the code.
func checkReadBack(t *testing.T, c []api.Op) {
	t.Helper()
	s, e := print.Code(c)
	var l []api.Token
	for at := 0; at < len(s); { // Lex takes no text that is too long for a query
		w, next, err := lex.Next(s, at)
		if err != api.OK {
			t.Fatalf("%s: no word at %d", brief(s), at)
		}
		l, at = append(l, w), next
	}
	back, end, err := query.Code(l, 0)
	if e != api.OK || err != api.OK || end != len(l) || !same(back, c) {
		t.Errorf("%s: %s %d is read as %s %d %d", brief(c), brief(s), e, brief(back), end, err)
	}
}

// checkParsedBack holds that what is parsed of a query's text is the query; false, if the text is too long.
func checkParsedBack(t *testing.T, q api.Query) bool {
	t.Helper()
	s, e := print.Text(q)
	back, err := query.Parse(s)
	if len(s) > api.MaxText {
		if e != api.OK || err != api.ErrLong {
			t.Errorf("%s: %d %d", brief(s), e, err)
		}
		return false
	}
	if e != api.OK || err != api.OK || !same(back, q) {
		t.Errorf("%s: %s %d is parsed as %s %d", brief(q), brief(s), e, brief(back), err)
	}
	return true
}

func iri(s string) api.Term   { return api.Term{Kind: api.Iri, Text: s} }
func plain(s string) api.Term { return api.Term{Kind: api.Literal, Text: s} }
func v(s string) api.Term     { return api.Term{Kind: api.Var, Text: s} }

func basic(l ...api.Triple) api.Op { return api.Op{Kind: api.OBasic, Triples: l} }

// xay tells an OBasic of ?x <a> ?y.
func xay() api.Op { return basic(api.Triple{S: v("x"), P: iri("a"), O: v("y")}) }

func asking(c ...api.Op) api.Query { return api.Query{Ask: true, Limit: -1, Code: c} }

func selecting(vars ...string) api.Query {
	return api.Query{Vars: vars, Limit: -1, Code: []api.Op{xay()}}
}

// equals tells the formula ?x = 1.
func equals() []api.Part {
	return []api.Part{{Kind: api.XVar, Name: "x"}, {Kind: api.XTerm, Term: api.Term{Kind: api.Literal, Text: "1", Type: api.TypeInteger}}, {Kind: api.XEq}}
}

const equalsText = `( ?x = "1"^^<` + api.TypeInteger + `> )`

// P9.1: each Kind of operation, as the chapter writes it.
func TestCodeOfEachKind(t *testing.T) {
	of := func(kind int) api.Op { return api.Op{Kind: kind} }
	with := func(kind int, name string) api.Op { return api.Op{Kind: kind, Formula: equals(), Name: name} }
	service := func(silent bool) api.Op { return api.Op{Kind: api.OService, Name: "http://e", Silent: silent} }
	b, n := xay(), basic()
	for want, c := range map[string][]api.Op{
		"{ }":               {n},
		"{ ?x <a> ?y . }":   {b},
		"{ { } { } }":       {n, n, of(api.OJoin)},
		"{ { } UNION { } }": {n, n, of(api.OUnion)},
		"{ { } MINUS { } }": {n, n, of(api.OMinus)},
		"{ ?x <a> ?y . <a> ?y \"b\"@en . ?x ?x <c> . }":                                        {basic(b.Triples[0], api.Triple{S: iri("a"), P: v("y"), O: api.Term{Kind: api.Literal, Text: "b", Lang: "en"}}, api.Triple{S: v("x"), P: v("x"), O: iri("c")})},
		"{ { ?x <a> ?y . } { } }":                                                              {b, n, of(api.OJoin)},
		"{ { } { ?x <a> ?y . } }":                                                              {n, b, of(api.OJoin)},
		"{ { ?x <a> ?y . } UNION { } }":                                                        {b, n, of(api.OUnion)},
		"{ { } MINUS { ?x <a> ?y . } }":                                                        {n, b, of(api.OMinus)},
		"{ { ?x <a> ?y . } OPTIONAL { { } } }":                                                 {b, n, of(api.OLeft)},
		"{ { } OPTIONAL { { ?x <a> ?y . } FILTER ( " + equalsText + " ) } }":                   {n, b, with(api.OLeft, "")},
		"{ { ?x <a> ?y . } FILTER ( " + equalsText + " ) }":                                    {b, with(api.OFilter, "")},
		"{ { ?x <a> ?y . } BIND ( " + equalsText + " AS ?z_1 ) }":                              {b, with(api.OExtend, "z_1")},
		"{ SERVICE <http://e> { ?x <a> ?y . } }":                                               {b, service(false)},
		"{ SERVICE SILENT <http://e> { } }":                                                    {n, service(true)},
		"{ { { { } { ?x <a> ?y . } } UNION { } } MINUS { { } OPTIONAL { { ?x <a> ?y . } } } }": {n, b, of(api.OJoin), n, of(api.OUnion), n, b, of(api.OLeft), of(api.OMinus)},
		"{ { ?x <a> ?y . } { { } UNION { { } MINUS { ?x <a> ?y . } } } }":                      {b, n, n, b, of(api.OMinus), of(api.OUnion), of(api.OJoin)},
		"{ { { { ?x <a> ?y . } FILTER ( " + equalsText + " ) } FILTER ( " + equalsText + " ) } BIND ( " + equalsText + " AS ?z ) }": {b, with(api.OFilter, ""), with(api.OFilter, ""), with(api.OExtend, "z")},
		"{ { SERVICE <http://e> { { } OPTIONAL { { } } } } { SERVICE SILENT <http://e> { } } }":                                     {n, n, of(api.OLeft), service(false), n, service(true), of(api.OJoin)},
		"{ { ?x <a> ?y . } OPTIONAL { { { } FILTER ( " + equalsText + " ) } FILTER ( " + equalsText + " ) } }":                      {b, n, with(api.OFilter, ""), with(api.OLeft, "")},
	} {
		checkCode(t, c, want)
		checkReadBack(t, c)
		checkText(t, asking(c...), "ASK "+want)
		checkParsedBack(t, asking(c...))
	}
}

// P9.1: tables without names, without rows, without both, with None.
func TestCodeOfTables(t *testing.T) {
	of := func(vars []string, rows ...[]api.Term) []api.Op {
		return []api.Op{{Kind: api.OTable, Table: api.Table{Vars: vars, Rows: rows}}}
	}
	names := func(n int) []string {
		var l []string
		for i := range n {
			l = append(l, fmt.Sprintf("v%d", i))
		}
		return l
	}
	row := []api.Term{iri("a"), {}, plain("\n")}
	for want, c := range map[string][]api.Op{
		"{ VALUES ( ) { } }":              of(nil),
		"{ VALUES ( ) { ( ) } }":          of(nil, nil),
		"{ VALUES ( ) { ( ) ( ) } }":      of([]string{}, []api.Term{}, nil),
		"{ VALUES ( ?x ?y ) { } }":        of([]string{"x", "y"}),
		"{ VALUES ( ?x ) { ( UNDEF ) } }": of([]string{"x"}, []api.Term{{}}),
		"{ VALUES ( ?z ?x ?y ) { ( <a> UNDEF \"\\n\" ) ( UNDEF UNDEF UNDEF ) } }":                           of([]string{"z", "x", "y"}, row, make([]api.Term, 3)),
		"{ VALUES ( ?" + strings.Join(names(32), " ?") + " ) { (" + strings.Repeat(" UNDEF", 32) + " ) } }": of(names(32), make([]api.Term, 32)),
		"{ VALUES ( ?x ) {" + strings.Repeat(" ( <a> )", api.MaxBatch) + " } }":                             of([]string{"x"}, slices.Repeat([][]api.Term{{iri("a")}}, api.MaxBatch)...),
	} {
		checkCode(t, c, want)
		checkReadBack(t, c)
		checkText(t, asking(c...), "ASK "+want)
		checkParsedBack(t, asking(c...))
	}
}

// P9.1, P9.2: terms whose texts have escapes, in each place where a term may be.
func TestTextOfEscapes(t *testing.T) {
	for text, want := range map[string]string{
		"": `""`, `"`: `"\""`, `\`: `"\\"`, "\n": `"\n"`, "\t": `"\t"`, `\n`: `"\\n"`, `\"`: `"\\\""`, ` ) } . " ?x <a>`: `" ) } . \" ?x <a>"`, "\\\\\n\n\"\"": `"\\\\\n\n\"\""`,
	} {
		for tag, x := range map[string]api.Term{"": {}, "@en": {Lang: "en"}, "^^<t>": {Type: "t"}, "^^<" + api.TypeString + ">": {Type: api.TypeString}} {
			x.Kind, x.Text = api.Literal, text
			f := []api.Part{{Kind: api.XTerm, Term: x}}
			table := api.Op{Kind: api.OTable, Table: api.Table{Vars: []string{"x"}, Rows: [][]api.Term{{x}}}}
			q := asking(basic(api.Triple{S: v("x"), P: v("y"), O: x}), table, api.Op{Kind: api.OLeft, Formula: f}, api.Op{Kind: api.OFilter, Formula: f}, api.Op{Kind: api.OExtend, Formula: f, Name: "n"})
			s := want + tag
			checkText(t, q, "ASK { { { { ?x ?y "+s+" . } OPTIONAL { { VALUES ( ?x ) { ( "+s+" ) } } FILTER ( "+s+" ) } } FILTER ( "+s+" ) } BIND ( "+s+" AS ?n ) }")
			checkParsedBack(t, q)
		}
	}
}

// P9.1: the chapter's example.
func TestExample(t *testing.T) {
	checkCode(t, []api.Op{xay(), {Kind: api.OFilter, Formula: equals()}}, "{ { ?x <a> ?y . } FILTER ( "+equalsText+" ) }")
}

// P9.1: what is made of a code's table.
func TestTextOfQueries(t *testing.T) {
	const where = " WHERE { ?x <a> ?y . }"
	of := func(change func(q *api.Query), vars ...string) api.Query {
		q := selecting(vars...)
		change(&q)
		return q
	}
	group := func(q *api.Query, l ...string) { q.Grouped, q.Group = true, l }
	for want, q := range map[string]api.Query{
		"ASK { ?x <a> ?y . }":                   asking(xay()),
		"SELECT ?x" + where:                     selecting("x"),
		"SELECT ?x ?y" + where:                  selecting("x", "y"),
		"SELECT ?y ?x" + where:                  selecting("y", "x"),
		"SELECT * WHERE { }":                    {Limit: -1, Code: []api.Op{basic()}},
		"SELECT DISTINCT * WHERE { } LIMIT 3":   {Distinct: true, Limit: 3, Code: []api.Op{basic()}},
		"SELECT DISTINCT ?x" + where:            of(func(q *api.Query) { q.Distinct = true }, "x"),
		"SELECT ?x" + where + " GROUP BY ?x":    of(func(q *api.Query) { group(q, "x") }, "x"),
		"SELECT ?x" + where + " GROUP BY ?y ?x": of(func(q *api.Query) { group(q, "y", "x") }, "x"),
		"SELECT ( COUNT ( * ) AS ?n )" + where:  of(func(q *api.Query) { group(q); q.Aggs = []api.Agg{{Kind: api.ACount, Name: "n"}} }, "n"),
		"SELECT ( COUNT ( ?x ) AS ?n )" + where: of(func(q *api.Query) { group(q); q.Aggs = []api.Agg{{Kind: api.ACount, Over: "x", Name: "n"}} }, "n"),
		"SELECT ( SUM ( ?x ) AS ?n )" + where:   of(func(q *api.Query) { group(q); q.Aggs = []api.Agg{{Kind: api.ASum, Over: "x", Name: "n"}} }, "n"),
		"SELECT ( MIN ( ?y ) AS ?n )" + where:   of(func(q *api.Query) { group(q); q.Aggs = []api.Agg{{Kind: api.AMin, Over: "y", Name: "n"}} }, "n"),
		"SELECT ( MAX ( ?y ) AS ?n )" + where:   of(func(q *api.Query) { group(q); q.Aggs = []api.Agg{{Kind: api.AMax, Over: "y", Name: "n"}} }, "n"),
		"SELECT DISTINCT ( MAX ( ?x ) AS ?m ) ?y ( COUNT ( * ) AS ?a ) ( SUM ( ?x ) AS ?b ) ?x" + where + " GROUP BY ?x ?y ORDER BY DESC ( ?a ) ASC ( ?x ) DESC ( ?a ) LIMIT 12 OFFSET 34": of(func(q *api.Query) {
			group(q, "x", "y")
			q.Distinct, q.Limit, q.Offset = true, 12, 34
			q.Aggs = []api.Agg{{Kind: api.AMax, Over: "x", Name: "m"}, {Kind: api.ACount, Name: "a"}, {Kind: api.ASum, Over: "x", Name: "b"}}
			q.Order = []api.Key{{Name: "a", Desc: true}, {Name: "x"}, {Name: "a", Desc: true}}
		}, "m", "y", "a", "b", "x"),
		"SELECT ?x" + where + " ORDER BY ASC ( ?x )":                           of(func(q *api.Query) { q.Order = []api.Key{{Name: "x"}} }, "x"),
		"SELECT ?x" + where + " ORDER BY DESC ( ?x )":                          of(func(q *api.Query) { q.Order = []api.Key{{Name: "x", Desc: true}} }, "x"),
		"SELECT ?x" + where + " ORDER BY ASC ( ?x ) LIMIT 1":                   of(func(q *api.Query) { q.Order, q.Limit = []api.Key{{Name: "x"}}, 1 }, "x"),
		"SELECT ?x" + where + " GROUP BY ?x OFFSET 1":                          of(func(q *api.Query) { group(q, "x"); q.Offset = 1 }, "x"),
		"SELECT ?x" + where + " ORDER BY" + strings.Repeat(" DESC ( ?x )", 32): of(func(q *api.Query) { q.Order = slices.Repeat([]api.Key{{Name: "x", Desc: true}}, 32) }, "x"),
	} {
		checkText(t, q, want)
		checkParsedBack(t, q)
	}
}

// P9.1: Limit and Offset at their bounds.
func TestTextOfCounts(t *testing.T) {
	for n, limit := range map[int]string{-1: "", 0: " LIMIT 0", 1: " LIMIT 1", 10: " LIMIT 10", 999999999: " LIMIT 999999999"} {
		for m, offset := range map[int]string{0: "", 1: " OFFSET 1", 100: " OFFSET 100", 999999999: " OFFSET 999999999"} {
			q := selecting("x")
			q.Limit, q.Offset = n, m
			checkText(t, q, "SELECT ?x WHERE { ?x <a> ?y . }"+limit+offset)
			checkParsedBack(t, q)
		}
	}
}

// P9.1: of what is no code there is no text.
func TestNoCode(t *testing.T) {
	b, join := xay(), api.Op{Kind: api.OJoin}
	filter := api.Op{Kind: api.OFilter, Formula: equals()}
	extend := func(s string) api.Op { return api.Op{Kind: api.OExtend, Formula: equals(), Name: s} }
	service := api.Op{Kind: api.OService, Name: "e"}
	long := append([]api.Op{b}, slices.Repeat([]api.Op{filter}, api.MaxOps)...)
	checkCode(t, long[:api.MaxOps], strings.Repeat("{ ", api.MaxOps)+"?x <a> ?y . }"+strings.Repeat(" FILTER ( "+equalsText+" ) }", api.MaxOps-1))
	checkReadBack(t, long[:api.MaxOps])
	checkNoCode(t, api.ErrLong, long, make([]api.Op, api.MaxOps+1), append([]api.Op{b, extend("x")}, long...))
	checkNoCode(t, api.ErrForm, nil, []api.Op{}, []api.Op{{}}, []api.Op{{Kind: 10}}, []api.Op{{Kind: -1}}, []api.Op{{Kind: math.MinInt}}, []api.Op{{Kind: math.MaxInt}}, []api.Op{join}, []api.Op{filter}, []api.Op{b, join}, []api.Op{b, b}, []api.Op{b, b, join, join}, []api.Op{join, b, b},
		[]api.Op{b, extend("")}, []api.Op{b, {Kind: api.OFilter}}, []api.Op{b, {Kind: api.OService}}, []api.Op{b, {Kind: api.OService, Name: "a b"}}, []api.Op{b, service, service}, []api.Op{b, service, filter, service}, []api.Op{b, {Kind: api.OFilter, Formula: equals(), Silent: true}}, []api.Op{b, b, {Kind: api.OJoin, Formula: equals()}},
		[]api.Op{basic(api.Triple{})}, []api.Op{basic(api.Triple{S: plain("a"), P: iri("a"), O: v("x")})}, []api.Op{basic(slices.Repeat(b.Triples, 33)...)}, []api.Op{{Kind: api.OTable, Table: api.Table{Rows: [][]api.Term{{{}}}}}}, []api.Op{{Kind: api.OTable, Table: api.Table{Vars: []string{"x"}, Rows: [][]api.Term{{v("y")}}}}},
		[]api.Op{b, extend("x"), join}, []api.Op{{Kind: api.OTable, Table: api.Table{Rows: make([][]api.Term, api.MaxBatch+1)}}})
	checkNoCode(t, api.ErrScope, []api.Op{b, extend("x")}, []api.Op{b, extend("y")}, []api.Op{b, extend("z"), extend("z")}, []api.Op{basic(), b, join, extend("y"), service})
	checkCode(t, []api.Op{b, extend("z"), service}, "{ SERVICE <e> { { ?x <a> ?y . } BIND ( "+equalsText+" AS ?z ) } }")
}

// P9.1: of a query that is not right there is no text.
func TestNoText(t *testing.T) {
	of := func(change func(q *api.Query)) api.Query {
		q := selecting("x")
		change(&q)
		return q
	}
	checkNoText(t, api.ErrForm, api.Query{}, api.Query{Ask: true, Limit: -1}, api.Query{Ask: true, Code: []api.Op{xay()}}, api.Query{Ask: true, Limit: -1, Vars: []string{"x"}, Code: []api.Op{xay()}},
		of(func(q *api.Query) { q.Limit = -2 }), of(func(q *api.Query) { q.Limit = 1000000000 }), of(func(q *api.Query) { q.Limit = math.MinInt }), of(func(q *api.Query) { q.Offset = -1 }), of(func(q *api.Query) { q.Offset = 1000000000 }), of(func(q *api.Query) { q.Offset = math.MaxInt }),
		of(func(q *api.Query) { q.Grouped = true }), of(func(q *api.Query) { q.Group = []string{"x"} }), of(func(q *api.Query) { q.Aggs = []api.Agg{{Kind: 5, Name: "x"}} }), of(func(q *api.Query) { q.Order = []api.Key{{}} }), of(func(q *api.Query) { q.Order = make([]api.Key, 33) }),
		selecting("x", "x"), selecting(""), selecting("1"), selecting(strings.Repeat("x", 33)), selecting(make([]string, 33)...),
		of(func(q *api.Query) {
			q.Vars, q.Grouped, q.Aggs = []string{"n"}, true, []api.Agg{{Kind: api.ASum, Name: "n"}}
		}), of(func(q *api.Query) {
			q.Vars, q.Grouped, q.Aggs = []string{"n"}, true, []api.Agg{{Kind: 0, Over: "x", Name: "n"}}
		}))
	checkNoText(t, api.ErrScope, selecting(), selecting("z"), selecting("x", "z"), of(func(q *api.Query) { q.Order = []api.Key{{Name: "y"}} }), of(func(q *api.Query) { q.Grouped, q.Group = true, []string{"y"} }), of(func(q *api.Query) { q.Grouped, q.Group = true, []string{"x", "z"} }),
		of(func(q *api.Query) {
			q.Vars, q.Grouped, q.Aggs = []string{"n"}, true, []api.Agg{{Kind: api.ASum, Over: "z", Name: "n"}}
		}), of(func(q *api.Query) { q.Grouped, q.Aggs = true, []api.Agg{{Kind: api.ASum, Over: "y", Name: "x"}} }))
}

// P9.2: a text as long as a query's may be, and one byte more: there is a text, but it is no query's.
func TestLongTexts(t *testing.T) {
	of := func(n int) api.Query {
		return asking(basic(api.Triple{S: v("x"), P: iri("a"), O: plain(strings.Repeat("o", n-len(`ASK { ?x <a> "" . }`)))}))
	}
	for n := api.MaxText - 1; n <= api.MaxText+1; n++ {
		q := of(n)
		if s, e := print.Text(q); len(s) != n || e != api.OK {
			t.Errorf("%d bytes: %d %d", n, len(s), e)
		}
		if checkParsedBack(t, q) != (n <= api.MaxText) {
			t.Errorf("%d bytes", n)
		}
		checkReadBack(t, q.Code)
	}
	x := plain(strings.Repeat("\"", api.MaxText))
	c := []api.Op{basic(slices.Repeat([]api.Triple{{S: v("x"), P: iri(strings.Repeat("p", api.MaxText)), O: x}}, 32)...)}
	checkCode(t, c, "{"+strings.Repeat(" ?x <"+strings.Repeat("p", api.MaxText)+"> \""+strings.Repeat(`\"`, api.MaxText)+"\" .", 32)+" }")
	checkReadBack(t, c)
}
