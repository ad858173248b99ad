package query_test

import (
	"fmt"
	"math/rand/v2"
	"slices"
	"strings"
	"testing"

	"legation/api"
	"legation/lex"
	"legation/query"
)

// P8.2: what each part of a query says, written out; its code is shown.
func TestParse(t *testing.T) {
	for _, x := range []struct {
		text, code string
		want       api.Query
	}{
		{"ASK { }", "B", api.Query{Ask: true, Limit: -1}},
		{"ASK { ?x <a> ?y . OPTIONAL { ?y <b> ?z . } }", "B[?x <a> ?y .] B[?y <b> ?z .] L", api.Query{Ask: true, Limit: -1}},
		{"SELECT * WHERE { }", "B", api.Query{Limit: -1}},
		{"SELECT DISTINCT * WHERE { }", "B", api.Query{Distinct: true, Limit: -1}},
		{"SELECT * WHERE { ?x <a> ?y . OPTIONAL { ?y <b> ?z . FILTER ( ?z > 1 ) } }", "B[?x <a> ?y .] B[?y <b> ?z .] L[( ?z > \"1\"i )]", api.Query{Vars: []string{"x", "y", "z"}, Limit: -1}},
		{"SELECT * WHERE { ?b ?a9 ?B . ?a10 ?a ?a_ . }", "B[?b ?a9 ?B . ?a10 ?a ?a_ .]", api.Query{Vars: []string{"B", "a", "a10", "a9", "a_", "b"}, Limit: -1}},
		{"SELECT * WHERE { ?x <a> <b> . MINUS { ?x <a> ?y . } VALUES ( ?z ) { } BIND ( ?w AS ?v ) }", "B[?x <a> <b> .] B[?x <a> ?y .] M T[z :] J E[?w v]", api.Query{Vars: []string{"v", "x", "z"}, Limit: -1}},
		{"SELECT ?y ?x WHERE { ?x <a> ?y . }", "B[?x <a> ?y .]", api.Query{Vars: []string{"y", "x"}, Limit: -1}},
		{"SELECT DISTINCT ?y WHERE { ?x <a> ?y . }", "B[?x <a> ?y .]", api.Query{Distinct: true, Vars: []string{"y"}, Limit: -1}},
		{"SELECT ?x WHERE { ?x <a> ?y . } LIMIT 0", "B[?x <a> ?y .]", api.Query{Vars: []string{"x"}}},
		{"SELECT ?x WHERE { ?x <a> ?y . } LIMIT 5 OFFSET 7", "B[?x <a> ?y .]", api.Query{Vars: []string{"x"}, Limit: 5, Offset: 7}},
		{"SELECT ?x WHERE { ?x <a> ?y . } OFFSET 0", "B[?x <a> ?y .]", api.Query{Vars: []string{"x"}, Limit: -1}},
		{"SELECT * WHERE { } LIMIT 999999999 OFFSET 999999999", "B", api.Query{Limit: 999999999, Offset: 999999999}},
		{"SELECT ?x ?y WHERE { ?x <a> ?y . } ORDER BY ?y", "B[?x <a> ?y .]", api.Query{Vars: []string{"x", "y"}, Order: []api.Key{{Name: "y"}}, Limit: -1}},
		{"SELECT * WHERE { ?x <a> ?y . } ORDER BY DESC ( ?x ) ?y ASC ( ?x ) ?x OFFSET 2", "B[?x <a> ?y .]",
			api.Query{Vars: []string{"x", "y"}, Order: []api.Key{{Name: "x", Desc: true}, {Name: "y"}, {Name: "x"}, {Name: "x"}}, Limit: -1, Offset: 2}},
		{"SELECT ?y WHERE { ?x <a> ?y . } GROUP BY ?x ?y", "B[?x <a> ?y .]", api.Query{Vars: []string{"y"}, Grouped: true, Group: []string{"x", "y"}, Limit: -1}},
		{"SELECT * WHERE { ?x <a> ?y . } GROUP BY ?y ?x", "B[?x <a> ?y .]", api.Query{Vars: []string{"x", "y"}, Grouped: true, Group: []string{"y", "x"}, Limit: -1}},
		{"SELECT ( COUNT ( * ) AS ?n ) WHERE { }", "B", api.Query{Vars: []string{"n"}, Aggs: []api.Agg{{Kind: api.ACount, Name: "n"}}, Grouped: true, Limit: -1}},
		{"SELECT ( COUNT ( ?x ) AS ?n ) ?y ( SUM ( ?y ) AS ?a ) ( MIN ( ?x ) AS ?c ) ?x ( MAX ( ?x ) AS ?b ) WHERE { ?x <a> ?y . } GROUP BY ?x ?y ORDER BY ?a DESC ( ?y ) LIMIT 3", "B[?x <a> ?y .]",
			api.Query{Vars: []string{"n", "y", "a", "c", "x", "b"}, Aggs: []api.Agg{{Kind: api.ACount, Over: "x", Name: "n"}, {Kind: api.ASum, Over: "y", Name: "a"}, {Kind: api.AMin, Over: "x", Name: "c"}, {Kind: api.AMax, Over: "x", Name: "b"}},
				Grouped: true, Group: []string{"x", "y"}, Order: []api.Key{{Name: "a"}, {Name: "y", Desc: true}}, Limit: 3}},
	} {
		got, e := query.Parse(x.text)
		code := shown(got.Code)
		got.Code = nil
		if !same(got, x.want) || code != x.code || e != api.OK {
			t.Errorf("%s: %s %s %d", x.text, brief(got), code, e)
		}
		checkParse(t, x.text)
	}
}

// P8.2: texts whose words are no query's, however long the code would be.
func TestParseOfNoQuery(t *testing.T) {
	for _, s := range []string{
		"", " \t\n", "x", "{ }", "?x", "ASK", "SELECT", "WHERE { }", "ask { }", "Ask { }", "ASKS { }", "ASK WHERE { }", "ASK DISTINCT { }", "ASK * { }", "ASK ?x { }", "ASK { } { }", "ASK { } x", "ASK { } .", "ASK { } LIMIT 1", "ASK { } OFFSET 0",
		"ASK { ?x <a> ?y . } GROUP BY ?x", "ASK { ?x <a> ?y . } ORDER BY ?x", "ASK { } ASK { }", "x ASK { }", "ASK { } }", "ASK {", "ASK ( )",
		"SELECT WHERE { }", "SELECT { }", "SELECT *", "SELECT * WHERE", "SELECT * { }", "SELECT * WHERE { } x", "SELECT * WHERE { } { }", "SELECT * WHERE { } }", "SELECT * WHERE {", "SELECT * * WHERE { }", "SELECT * ?x WHERE { ?x <a> ?y . }", "SELECT ?x * WHERE { ?x <a> ?y . }",
		"SELECT DISTINCT WHERE { }", "SELECT DISTINCT DISTINCT * WHERE { }", "SELECT * DISTINCT WHERE { }", "DISTINCT SELECT * WHERE { }", "select * WHERE { }", "SELECT distinct * WHERE { }", "SELECT * where { }", "SELECT * WHERE ( )", "SELECT ( * ) WHERE { }",
		"SELECT ?x , ?y WHERE { ?x <a> ?y . }", "SELECT <a> WHERE { }", "SELECT x WHERE { }", "SELECT 1 WHERE { }", "SELECT ( ?x ) WHERE { ?x <a> ?y . }", "SELECT ( ?x AS ?n ) WHERE { ?x <a> ?y . }", "SELECT ( 1 AS ?n ) WHERE { }", "SELECT ?x", "SELECT ?x WHERE ?x <a> ?y .",
		"SELECT COUNT ( * ) AS ?n WHERE { }", "SELECT ( COUNT ( * ) ) WHERE { }", "SELECT ( COUNT ( * ) ?n ) WHERE { }", "SELECT ( COUNT ( * ) AS n ) WHERE { }", "SELECT ( COUNT ( * ) AS ) WHERE { }", "SELECT ( COUNT ( * ) AS ?n WHERE { }", "SELECT COUNT ( * ) AS ?n ) WHERE { }",
		"SELECT ( COUNT * AS ?n ) WHERE { }", "SELECT ( COUNT ( ) AS ?n ) WHERE { }", "SELECT ( COUNT ( * AS ?n ) WHERE { }", "SELECT ( COUNT * ) AS ?n ) WHERE { }", "SELECT ( COUNT AS ?n ) WHERE { }", "SELECT ( COUNT ( * ) AS ?n ?m ) WHERE { }", "SELECT ( COUNT ( * ) AS ( ?n ) ) WHERE { }",
		"SELECT ( SUM ( * ) AS ?n ) WHERE { }", "SELECT ( MIN ( * ) AS ?n ) WHERE { }", "SELECT ( MAX ( * ) AS ?n ) WHERE { }", "SELECT ( SUM ( ) AS ?n ) WHERE { ?x <a> ?y . }", "SELECT ( COUNT ( ?x ?y ) AS ?n ) WHERE { ?x <a> ?y . }", "SELECT ( COUNT ( <a> ) AS ?n ) WHERE { }", "SELECT ( SUM ( 1 ) AS ?n ) WHERE { }",
		"SELECT ( COUNT ( DISTINCT ?x ) AS ?n ) WHERE { ?x <a> ?y . }", "SELECT ( AVG ( ?x ) AS ?n ) WHERE { ?x <a> ?y . }", "SELECT ( count ( * ) AS ?n ) WHERE { }", "SELECT ( sum ( ?x ) AS ?n ) WHERE { ?x <a> ?y . }", "SELECT ( Min ( ?x ) AS ?n ) WHERE { ?x <a> ?y . }", "SELECT ( ( ?x ) AS ?n ) WHERE { ?x <a> ?y . }",
		"SELECT ( COUNT ( * ) as ?n ) WHERE { }", "SELECT ( STR ( ?x ) AS ?n ) WHERE { ?x <a> ?y . }", "SELECT ( ) WHERE { }", "SELECT ( SUM ( ?x + 1 ) AS ?n ) WHERE { ?x <a> ?y . }", "SELECT ( = ( ?x ) AS ?n ) WHERE { ?x <a> ?y . }",
		"SELECT ?x WHERE { ?x <a> ?y . } GROUP", "SELECT ?x WHERE { ?x <a> ?y . } GROUP BY", "SELECT ?x WHERE { ?x <a> ?y . } GROUP ?x", "SELECT ?x WHERE { ?x <a> ?y . } BY ?x", "SELECT ?x WHERE { ?x <a> ?y . } GROUP BY ( ?x )", "SELECT ?x WHERE { ?x <a> ?y . } GROUP BY x", "SELECT ?x WHERE { ?x <a> ?y . } GROUP BY LIMIT 1",
		"SELECT ?x WHERE { ?x <a> ?y . } GROUP BY ?x , ?y", "SELECT ?x WHERE { ?x <a> ?y . } GROUP BY ?x GROUP BY ?y", "SELECT ?x WHERE { ?x <a> ?y . } group BY ?x", "SELECT ?x WHERE { ?x <a> ?y . } GROUP by ?x", "SELECT ?x WHERE { ?x <a> ?y . } GROUP BY <a>", "SELECT ?x WHERE { ?x <a> ?y . } GROUP BY *",
		"SELECT ?x WHERE { ?x <a> ?y . } ORDER", "SELECT ?x WHERE { ?x <a> ?y . } ORDER BY", "SELECT ?x WHERE { ?x <a> ?y . } ORDER ?x", "SELECT ?x WHERE { ?x <a> ?y . } ORDER BY ( ?x )", "SELECT ?x WHERE { ?x <a> ?y . } ORDER BY ASC ?x", "SELECT ?x WHERE { ?x <a> ?y . } ORDER BY DESC ?x", "SELECT ?x WHERE { ?x <a> ?y . } ORDER BY ASC",
		"SELECT ?x WHERE { ?x <a> ?y . } ORDER BY ASC ( )", "SELECT ?x WHERE { ?x <a> ?y . } ORDER BY ASC ( ?x", "SELECT ?x WHERE { ?x <a> ?y . } ORDER BY DESC ( ?x ?x )", "SELECT ?x WHERE { ?x <a> ?y . } ORDER BY ?x DESC", "SELECT ?x WHERE { ?x <a> ?y . } ORDER BY ?x , ?x", "SELECT ?x WHERE { ?x <a> ?y . } ORDER BY DESC ASC ( ?x )", "SELECT ?x WHERE { ?x <a> ?y . } ORDER BY DESC ( ASC ( ?x ) )",
		"SELECT ?x WHERE { ?x <a> ?y . } ORDER BY asc ( ?x )", "SELECT ?x WHERE { ?x <a> ?y . } order BY ?x", "SELECT ?x WHERE { ?x <a> ?y . } ORDER by ?x", "SELECT ?x WHERE { ?x <a> ?y . } ORDER BY 1", "SELECT ?x WHERE { ?x <a> ?y . } ORDER BY LIMIT 1", "SELECT ?x WHERE { ?x <a> ?y . } ORDER BY ?x ORDER BY ?x", "SELECT ?x WHERE { ?x <a> ?y . } ORDER BY ?x GROUP BY ?x", "SELECT ?x WHERE { ?x <a> ?y . } ORDER BY DESC ( <a> )",
		"SELECT * WHERE { } LIMIT", "SELECT * WHERE { } OFFSET", "SELECT * WHERE { } LIMIT x", "SELECT * WHERE { } LIMIT ?x", "SELECT * WHERE { } LIMIT -1", "SELECT * WHERE { } LIMIT - 1", "SELECT * WHERE { } OFFSET - 1", "SELECT * WHERE { } LIMIT 1.5", "SELECT * WHERE { } OFFSET 1.0", "SELECT * WHERE { } LIMIT \"1\"", "SELECT * WHERE { } LIMIT ( 1 )", "SELECT * WHERE { } LIMIT 1 1", "SELECT * WHERE { } 1",
		"SELECT * WHERE { } OFFSET 1 LIMIT 1", "SELECT * WHERE { } LIMIT 1 LIMIT 1", "SELECT * WHERE { } OFFSET 1 OFFSET 1", "SELECT * WHERE { } limit 1", "SELECT * WHERE { } offset 1", "SELECT * WHERE { } LIMIT OFFSET 1", "SELECT * WHERE { } LIMIT 1 ORDER BY ?x", "SELECT ?x WHERE { ?x <a> ?y . } LIMIT 1 GROUP BY ?x", "SELECT * WHERE { } LIMIT +1",
		"SELECT * WHERE { } LIMIT 1000000000", "SELECT * WHERE { } OFFSET 1000000000", "SELECT * WHERE { } LIMIT 1234567890", "SELECT * WHERE { } OFFSET 9999999999", "SELECT * WHERE { } LIMIT 18446744073709551617", "SELECT * WHERE { } OFFSET 99999999999999999999999999", "SELECT * WHERE { } LIMIT 1 OFFSET 1234567890",
		"ASK { } ;", "ASK { ?x & ?y . }", "ASK { ?x <a b> ?y . }", "ASK { ?x <a> \"b . }", "ASK { } ?", "SELECT $x WHERE { }", "ASK { } \x00", "\xff",
	} {
		checkNoQuery(t, s, api.ErrForm)
		checkNoQuery(t, long(s), api.ErrForm)
		checkParse(t, s)
	}
}

// P8.1, P8.2: texts whose words are a query's that is not right.
func TestParseOfWrongQueries(t *testing.T) {
	const xy = " WHERE { ?x <a> ?y . }"
	for s, want := range map[string]api.Errno{
		"SELECT ?x ?x" + xy: api.ErrForm, "SELECT ?x ?y ?x" + xy: api.ErrForm, "SELECT ?z ?z" + xy: api.ErrForm, "SELECT ?x ?x ?z" + xy: api.ErrForm, "SELECT ( COUNT ( * ) AS ?n ) ( COUNT ( * ) AS ?n )" + xy: api.ErrForm,
		"SELECT ?n ( COUNT ( * ) AS ?n )" + xy: api.ErrForm, "SELECT ?x" + xy + " GROUP BY ?x ?x": api.ErrForm, "SELECT ?x" + xy + " GROUP BY ?x ?z ?z": api.ErrForm, "SELECT ?z ?z" + xy + " ORDER BY ?w": api.ErrForm,
		"SELECT ?z" + xy: api.ErrScope, "SELECT ?x ?z" + xy: api.ErrScope, "SELECT ?X" + xy: api.ErrScope, "SELECT ?x WHERE { }": api.ErrScope, "SELECT ?z WHERE { ?x <a> ?y . MINUS { ?x <a> ?z . } }": api.ErrScope, "SELECT ?z WHERE { ?x <a> ?y . FILTER ( ?z ) }": api.ErrScope,
		"SELECT ( COUNT ( * ) AS ?x )" + xy: api.ErrScope, "SELECT ( COUNT ( ?z ) AS ?n )" + xy: api.ErrScope, "SELECT ( SUM ( ?z ) AS ?n )" + xy: api.ErrScope, "SELECT ( COUNT ( ?n ) AS ?n )" + xy: api.ErrScope, "SELECT ( COUNT ( * ) AS ?n ) ( MAX ( ?n ) AS ?m )" + xy: api.ErrScope,
		"SELECT ?x ( COUNT ( * ) AS ?n )" + xy: api.ErrScope, "SELECT ?y ( COUNT ( * ) AS ?n )" + xy + " GROUP BY ?x": api.ErrScope, "SELECT ?x ?y" + xy + " GROUP BY ?x": api.ErrScope, "SELECT *" + xy + " GROUP BY ?x": api.ErrScope,
		"SELECT ?x" + xy + " GROUP BY ?x ?z": api.ErrScope, "SELECT ( COUNT ( * ) AS ?n )" + xy + " GROUP BY ?n": api.ErrScope, "SELECT ?z" + xy + " GROUP BY ?z": api.ErrScope,
		"SELECT ?x" + xy + " ORDER BY ?y": api.ErrScope, "SELECT ?x" + xy + " ORDER BY ?x DESC ( ?z )": api.ErrScope, "SELECT * WHERE { } ORDER BY ?x": api.ErrScope, "SELECT ?x" + xy + " GROUP BY ?x ?y ORDER BY ?y": api.ErrScope,
		"SELECT ?x ?x WHERE { ?x <a> ?y . BIND ( 1 AS ?x ) }": api.ErrScope, "SELECT ?z WHERE { VALUES ( ?x ) { ( ) } }": api.ErrForm, "SELECT ?x ?x WHERE { " + strings.Repeat("{ } ", 65) + "}": api.ErrLong,
		"SELECT * WHERE { " + strings.Repeat("{ } ", 65) + "}": api.ErrLong, "ASK { " + strings.Repeat("{ } ", 65) + "}": api.ErrLong, "ASK { " + strings.Repeat("{ } ", 65) + "} x": api.ErrForm, "SELECT * WHERE { " + strings.Repeat("{ } ", 65) + "} LIMIT x": api.ErrForm,
	} {
		checkNoQuery(t, s, want)
	}
	for _, s := range []string{
		"SELECT ( COUNT ( * ) AS ?n ) ?x ( SUM ( ?x ) AS ?m )" + xy + " GROUP BY ?x ORDER BY ?m ?n ?x", "SELECT ?x" + xy + " GROUP BY ?y ?x", "SELECT *" + xy + " GROUP BY ?x ?y", "SELECT ( COUNT ( ?x ) AS ?n ) WHERE { ?x <a> ?y . FILTER ( ?n ) }",
		"SELECT ?z WHERE { OPTIONAL { ?x <a> ?z . } }", "SELECT ?z WHERE { { } UNION { VALUES ( ?z ) { } } }", "SELECT ?z WHERE { SERVICE SILENT <e> { BIND ( 1 AS ?z ) } }", "SELECT * WHERE { MINUS { ?x <a> ?z . } }",
	} {
		if e := checkParse(t, s); e != api.OK {
			t.Errorf("%s: %d", s, e)
		}
	}
}

// P8.1, P8.2: as many of each thing as may be, and one more; the longest text.
func TestParseOfMany(t *testing.T) {
	numbered := func(n int, made string) string {
		var l []string
		for i := range n {
			l = append(l, strings.ReplaceAll(made, "#", fmt.Sprint(i)))
		}
		return strings.Join(l, " ")
	}
	body := func(n int) string { return " WHERE { VALUES ( " + numbered(n, "?v#") + " ) { } ?x <a> ?y . }" }
	for s, want := range map[string]api.Errno{
		"SELECT " + numbered(32, "?v#") + body(32): api.OK, "SELECT ?x " + numbered(32, "?v#") + body(32): api.ErrForm, "SELECT *" + body(30): api.OK, "SELECT *" + body(31): api.ErrForm, "SELECT ?x" + body(32): api.OK,
		"SELECT " + numbered(8, "( COUNT ( * ) AS ?n# )") + body(1): api.OK, "SELECT " + numbered(9, "( COUNT ( * ) AS ?n# )") + body(1): api.ErrForm,
		"SELECT " + numbered(24, "?v#") + " " + numbered(8, "( MIN ( ?x ) AS ?n# )") + body(32) + " GROUP BY " + numbered(32, "?v#"): api.OK,
		"SELECT " + numbered(25, "?v#") + " " + numbered(8, "( MIN ( ?x ) AS ?n# )") + body(32) + " GROUP BY " + numbered(32, "?v#"): api.ErrForm,
		"SELECT ?x" + body(32) + " GROUP BY ?x " + numbered(31, "?v#"):                                                               api.OK, "SELECT ?x" + body(32) + " GROUP BY ?x " + numbered(32, "?v#"): api.ErrForm,
		"SELECT ?x" + body(1) + " ORDER BY " + strings.Repeat("?x ", 32): api.OK, "SELECT ?x" + body(1) + " ORDER BY " + strings.Repeat("DESC ( ?x ) ", 33): api.ErrForm, "SELECT ?x" + body(1) + " ORDER BY " + strings.Repeat("?z ", 33): api.ErrForm,
		"SELECT ?x" + body(1) + " LIMIT 9": api.OK, "SELECT ?x" + body(1) + " LIMIT 999999999": api.OK, "SELECT ?x" + body(1) + " OFFSET 999999999": api.OK,
		"ASK { VALUES ( ?x ) { ( 1 ) ( 123456789 ) } }": api.OK, "ASK { VALUES ( ?x ) { ( 1 ) ( 1234567890 ) } }": api.ErrForm,
		"ASK { }" + strings.Repeat(" ", api.MaxText-7): api.OK, "ASK { }" + strings.Repeat(" ", api.MaxText-6): api.ErrLong, strings.Repeat("{", api.MaxText): api.ErrForm, strings.Repeat("{", api.MaxText+1): api.ErrLong,
		"ASK " + strings.Repeat("{", 2000) + strings.Repeat("}", 2000): api.OK, "ASK " + strings.Repeat("{", 2000) + strings.Repeat("}", 1999): api.ErrForm, "ASK { ;" + strings.Repeat(" ", api.MaxText): api.ErrLong,
	} {
		q, e := query.Parse(s)
		if e != want || e == api.OK && query.Check(q) != api.OK || e != api.OK && !same(q, api.Query{}) {
			t.Errorf("%s: %s %d; not %d", brief(s), brief(q), e, want)
		}
	}
}

// P8.1 to P8.3: texts near those that have all that queries may have, held against the chapter's rules.
func TestParseOfChangedTexts(t *testing.T) {
	count := map[api.Errno]int{}
	for _, s := range everything() {
		if e := checkParse(t, s); e != api.OK {
			t.Errorf("%s: %d", s, e)
		}
		changed(s, func(s string) {
			count[checkParse(t, s)]++
			if t.Failed() {
				t.FailNow()
			}
		})
	}
	if count[api.OK] < 200 || count[api.ErrScope] < 50 {
		t.Errorf("%v", count)
	}
}

// P8.1 to P8.3: texts of any kind, and those near some of them.
func TestParseOfGrownTexts(t *testing.T) {
	g := &grower{r: rand.New(rand.NewPCG(8, 2))}
	count := map[api.Errno]int{}
	for range 2000 {
		s := g.query()
		count[checkParse(t, s)]++
		words := strings.Fields(s)
		at := g.r.IntN(len(words))
		checkParse(t, strings.Join(slices.Delete(slices.Clone(words), at, at+1), " "))
		words[at] = g.one(wordsOfAll()...)
		checkParse(t, strings.Join(words, " "))
		if t.Failed() {
			t.FailNow()
		}
	}
	if count[api.OK] < 500 || count[api.ErrScope] < 100 || count[api.ErrForm] > 900 {
		t.Errorf("%v", count)
	}
}

// P8.4: blanks, tabs and line feeds between words, or nothing where words part without.
func TestParseOfSpaces(t *testing.T) {
	g := &grower{r: rand.New(rand.NewPCG(8, 3))}
	texts := everything()
	for range 300 {
		texts = append(texts, g.query())
	}
	for _, s := range texts {
		want, e := query.Parse(s)
		words := strings.Fields(s)
		tight := words[0]
		for i, w := range words[1:] {
			if l, _, _ := lex.Lex(words[i] + w); lex.Join(l) != words[i]+" "+w {
				tight += " "
			}
			tight += w
		}
		loose := strings.Join(words, g.one("  ", "\t", "\n", " \t\n", "\n\n\t "))
		var mixed string
		for _, w := range words {
			mixed += g.one(" ", "\t", "\n", "\n\t", "    ") + w
		}
		for _, x := range []string{tight, loose, " " + loose, loose + "\n", mixed, "\n" + mixed + "\t \n"} {
			if q, err := query.Parse(x); !same(q, want) || err != e {
				t.Fatalf("%q: %s %d; not %s %d", x, brief(q), err, brief(want), e)
			}
		}
	}
}

// P8.2: what is parsed is new each time, and its lists share no room.
func TestParseIsNew(t *testing.T) {
	for _, s := range everything() {
		q, e := query.Parse(s)
		was := tidied(q)
		_ = append(q.Vars, "other")
		_ = append(q.Group, "other")
		_ = append(q.Aggs, api.Agg{Kind: -7})
		_ = append(q.Order, api.Key{Name: "other"})
		_ = append(q.Code, api.Op{Kind: -7})
		if !same(q, was) {
			t.Fatalf("%s: lists share room", s)
		}
		fill(q.Vars, "other")
		if again := tidied(q); len(q.Vars) > 0 && (!slices.Equal(again.Group, was.Group) || !same(again.Code, was.Code) || !slices.Equal(again.Aggs, was.Aggs)) {
			t.Fatalf("%s: lists share names", s)
		}
		fill(q.Group, "other")
		fill(q.Aggs, api.Agg{})
		fill(q.Order, api.Key{})
		fill(q.Code, api.Op{})
		if again, e2 := query.Parse(s); !same(again, was) || e != e2 {
			t.Fatalf("%s: %s %d; then %s %d", s, brief(was), e, brief(again), e2)
		}
	}
}
