package server_test

import (
	"testing"

	"legation/api"
	"legation/query"
	"legation/server"
	"legation/store"
)

// P18.1: the chapter's examples, byte by byte.
func TestExamples(t *testing.T) {
	for b, want := range map[string]string{
		"id=1&query=ASK%20%7B%20%7D": "1\ntrue\n",
		"id=2&query=x":               "2\nerror 2\n",
	} {
		for _, s := range []*store.Store{nil, store.New(), stored(t, "a k b")} {
			for range 3 {
				if got, e := server.Serve(s, b); got != want || e != api.OK {
					t.Errorf("%q: %q, %d; not %q", b, got, e, want)
				}
			}
		}
	}
	q, _ := query.Parse("ASK { }")
	replied(t, "ASK { }", server.Answer(nil, 1, q), truth(1, true))
}

// P18.1: replies written out, byte by byte.
func TestBytes(t *testing.T) {
	s := stored(t, `a k b|b k c|a n 1|_:b n "t"@en`)
	for text, want := range map[string]string{
		"SELECT * WHERE { ?x <k> ?y . }":                                "7\nrows\n?x\t?y\n<a>\t<b>\n<b>\t<c>\n",
		"SELECT ?y ?x WHERE { ?x <n> ?y . }":                            "7\nrows\n?y\t?x\n\"1\"^^<http://www.w3.org/2001/XMLSchema#integer>\t<a>\n\"t\"@en\t_:b\n",
		"SELECT * WHERE { ?x <k> ?y . OPTIONAL { ?y <k> ?z . } }":       "7\nrows\n?x\t?y\t?z\n<a>\t<b>\t<c>\n<b>\t<c>\t\n",
		"SELECT * WHERE { ?x <q> ?y . }":                                "7\nrows\n?x\t?y\n",
		"SELECT * WHERE { <a> <k> <b> . }":                              "7\nrows\n\n\n",
		"SELECT * WHERE { <a> <k> <c> . }":                              "7\nrows\n\n",
		"SELECT ?z WHERE { ?x <k> ?y . OPTIONAL { ?y <q> ?z . } }":      "7\nrows\n?z\n\n\n",
		"SELECT ( COUNT ( * ) AS ?n ) WHERE { ?x <k> ?y . }":            "7\nrows\n?n\n\"2\"^^<http://www.w3.org/2001/XMLSchema#integer>\n",
		"SELECT * WHERE { VALUES ( ?x ) { ( \"\\\"\\\\\\n\\t\" ) } }":   "7\nrows\n?x\n\"\\\"\\\\\\n\\t\"\n",
		"ASK { ?x <k> ?y . }":                                           "7\ntrue\n",
		"ASK { ?x <q> ?y . }":                                           "7\nfalse\n",
		"":                                                              "7\nerror 2\n",
		"SELECT ?z WHERE { ?x <k> ?y . }":                               "7\nerror 6\n",
		"ASK { SERVICE <e> { } }":                                       "7\nerror 9\n",
		"SELECT * WHERE { SERVICE SILENT <e> { ?x <k> ?y . } } LIMIT 0": "7\nerror 9\n",
	} {
		if got, e := server.Serve(s, plainRequest(7, text)); got != want || e != api.OK {
			t.Errorf("%s: %q, %d; not %q", text, got, e, want)
		}
	}
}

func someStore(t *testing.T) *store.Store {
	t.Helper()
	return stored(t, "a k b|b k c|c k c|a n 1|b n 2|c n 2")
}

// P18.1: columns, all or some of them.
func TestColumns(t *testing.T) {
	checkServes(t, someStore(t),
		"SELECT * WHERE { ?y <k> ?x . }", "x y|b a|c b|c c",
		"SELECT ?y ?x WHERE { ?y <k> ?x . }", "y x|a b|b c|c c",
		"SELECT ?x WHERE { ?y <k> ?x . }", "x|b|c|c",
		"SELECT DISTINCT ?x WHERE { ?y <k> ?x . }", "x|b|c",
		"SELECT * WHERE { ?x <k> ?y . ?y <n> ?z . }", "x y z|a b 2|b c 2|c c 2",
		"SELECT * WHERE { ?x <q> ?y . }", "x y",
		"SELECT * WHERE { <a> <k> <b> . }", "|",
		"SELECT * WHERE { <a> <k> <a> . }", "",
		"SELECT * WHERE { }", "|",
		"SELECT * WHERE { { } UNION { } }", "||",
		"SELECT DISTINCT * WHERE { { } UNION { } }", "|")
}

// P18.1: the order of rows, and pieces of them.
func TestOrderAndPieces(t *testing.T) {
	checkServes(t, someStore(t),
		"SELECT ?x ?n WHERE { ?x <n> ?n . } ORDER BY DESC ( ?n )", "x n|b 2|c 2|a 1",
		"SELECT ?x ?n WHERE { ?x <n> ?n . } ORDER BY ?n DESC ( ?x )", "x n|a 1|c 2|b 2",
		"SELECT ?x WHERE { ?x <n> ?n . } LIMIT 2", "x|a|b",
		"SELECT ?x WHERE { ?x <n> ?n . } LIMIT 0", "x",
		"SELECT ?x WHERE { ?x <n> ?n . } LIMIT 999999999", "x|a|b|c",
		"SELECT ?x WHERE { ?x <n> ?n . } OFFSET 1", "x|b|c",
		"SELECT ?x WHERE { ?x <n> ?n . } LIMIT 1 OFFSET 1", "x|b",
		"SELECT ?x WHERE { ?x <n> ?n . } OFFSET 999999999", "x",
		"SELECT ?x WHERE { ?x <n> ?n . } ORDER BY DESC ( ?x ) LIMIT 2", "x|c|b",
		"SELECT DISTINCT ?n WHERE { ?x <n> ?n . } ORDER BY DESC ( ?n ) LIMIT 1 OFFSET 1", "n|1",
		"SELECT * WHERE { } LIMIT 0", "",
		"SELECT * WHERE { { } UNION { } UNION { } } LIMIT 2", "||")
}

// P18.1: groups and aggregates.
func TestGroups(t *testing.T) {
	checkServes(t, someStore(t),
		"SELECT ?y ( COUNT ( ?x ) AS ?c ) WHERE { ?x <k> ?y . } GROUP BY ?y", "y c|b 1|c 2",
		"SELECT ?n ( COUNT ( * ) AS ?c ) ( MIN ( ?x ) AS ?a ) ( MAX ( ?x ) AS ?b ) ( SUM ( ?n ) AS ?s ) WHERE { ?x <n> ?n . } GROUP BY ?n", "n c a b s|1 1 a a 1|2 2 b c 4",
		"SELECT ( SUM ( ?n ) AS ?s ) ( COUNT ( * ) AS ?c ) WHERE { ?x <n> ?n . }", "s c|5 3",
		"SELECT ( SUM ( ?x ) AS ?s ) ( COUNT ( ?x ) AS ?c ) WHERE { ?x <n> ?n . }", "s c|- 3",
		"SELECT ( COUNT ( * ) AS ?c ) ( MIN ( ?n ) AS ?m ) WHERE { ?x <q> ?n . }", "c m|0 -",
		"SELECT ?x ( COUNT ( * ) AS ?c ) WHERE { ?x <q> ?n . } GROUP BY ?x", "x c",
		"SELECT ?y ( COUNT ( ?x ) AS ?c ) WHERE { ?x <k> ?y . } GROUP BY ?y ORDER BY DESC ( ?c ) LIMIT 1", "y c|c 2")
}

// P18.1: each operation that is no service.
func TestOperations(t *testing.T) {
	checkServes(t, someStore(t),
		"SELECT * WHERE { ?x <k> ?y . OPTIONAL { ?y <n> ?z . FILTER ( ?x = <a> ) } }", "x y z|a b 2|b c -|c c -",
		"SELECT * WHERE { { ?x <n> ?y . } UNION { ?y <k> ?x . } }", "x y|a 1|b a|b 2|c b|c c|c 2",
		"SELECT * WHERE { ?x <k> ?y . MINUS { ?x <n> ?z . FILTER ( ?z = 2 ) } }", "x y|a b",
		"SELECT * WHERE { ?x <n> ?n . FILTER ( ?n > 1 && ?x != <c> ) }", "n x|2 b",
		"SELECT * WHERE { ?x <n> ?n . BIND ( ?n * 2 AS ?m ) FILTER ( ?m < 4 ) }", "m n x|2 1 a",
		"SELECT * WHERE { ?x <n> ?n . BIND ( 999999998 + ?n AS ?m ) }", "m n x|- 2 b|- 2 c|999999999 1 a",
		"SELECT * WHERE { ?x <k> ?y . VALUES ( ?x ?z ) { ( <a> 7 ) ( UNDEF \"u\" ) } }", "x y z|a b 7|a b \"u\"|b c \"u\"|c c \"u\"",
		"SELECT * WHERE { VALUES ( ?x ) { ( 10 ) ( 9 ) ( UNDEF ) ( <a> ) } }", "x|-|a|9|10",
		"SELECT * WHERE { { ?x <k> ?y . } { ?y <k> ?z . } }", "x y z|a b c|b c c|c c c")
}

// P18.1: what asks is answered by whether there is a row.
func TestAsks(t *testing.T) {
	checkServes(t, someStore(t),
		"ASK { }", "yes",
		"ASK { ?x <k> ?y . }", "yes",
		"ASK { <a> <k> <b> . }", "yes",
		"ASK { ?x <k> <a> . }", "no",
		"ASK { ?x <k> ?y . FILTER ( ?x = ?y ) }", "yes",
		"ASK { ?x <k> ?y . FILTER ( ?z ) }", "no",
		"ASK { VALUES ( ?x ) { } }", "no",
		"ASK { VALUES ( ) { ( ) ( ) } }", "yes",
		"ASK { ?x <k> ?y . MINUS { ?x <n> ?z . } }", "no",
		"ASK { { ?x <q> ?y . } UNION { } }", "yes",
		"ASK { OPTIONAL { ?x <q> ?y . } }", "yes")
}

// P18.1: a nil store has no triples.
func TestNothing(t *testing.T) {
	for _, s := range []*store.Store{nil, store.New()} {
		checkServes(t, s,
			"SELECT * WHERE { ?x <k> ?y . OPTIONAL { ?y <k> ?z . } }", "x y z",
			"SELECT * WHERE { OPTIONAL { ?y <k> ?z . } }", "y z|- -",
			"SELECT * WHERE { ?x <k> ?y . } ORDER BY ?x LIMIT 5 OFFSET 1", "x y",
			"SELECT ( COUNT ( * ) AS ?c ) WHERE { ?x <k> ?y . }", "c|0",
			"SELECT * WHERE { VALUES ( ?x ) { ( <a> ) } }", "x|a",
			"SELECT * WHERE { }", "|",
			"ASK { }", "yes",
			"ASK { ?x ?p ?y . }", "no",
			"ASK { <a> <k> <b> . }", "no",
			"ASK { SERVICE SILENT <e> { } }", "error 9",
			"SELECT ?z WHERE { }", "error 6",
			"ASK", "error 2")
	}
}

// P18.1: blanks in a text say nothing; a text that was written otherwise is answered as what is read of it.
func TestTexts(t *testing.T) {
	checkServes(t, someStore(t),
		"ASK{}", "yes",
		"\n\t ASK\n{\t}  ", "yes",
		"SELECT*WHERE{?x<k>?y.}LIMIT 001", "x y|a b",
		"SELECT ?x WHERE { ?x <n> ?n . FILTER(?n=1) }", "x|a",
		"SELECT * WHERE { { { ?x <k> <b> . } } }", "x|a",
		"SELECT * WHERE { VALUES ( ?x ) { ( \"=&%+#\" ) } }", "x|\"=&%+#\"")
}
