package engine_test

import (
	"math/rand/v2"
	"testing"

	"legation/api"
	"legation/engine"
	"legation/query"
	"legation/store"
)

// checkRuns holds what queries come to over a world: a query's text, then a table, and so on.
func checkRuns(t *testing.T, w engine.World, cases ...string) {
	t.Helper()
	for i := 0; i < len(cases); i += 2 {
		q := parsed(t, cases[i])
		got, e := engine.Run(w, q)
		check(t, cases[i], got, e, of(t, cases[i+1]))
		p, e := plainRun(w, q)
		check(t, cases[i], p, e, of(t, cases[i+1]))
	}
}

// P14.1: the chapter's example; examples 1, 2, 4 and 5 of the whole.
func TestRunExamples(t *testing.T) {
	checkRuns(t, worldOf(t, "a knows b|b knows c|a knows b"),
		"SELECT * WHERE { ?x <knows> ?y . ?y <knows> ?z . }", "x y z|a b c",
		"SELECT * WHERE { <a> <knows> ?y . }", "y|b")
	checkRuns(t, worldOf(t, "a k b"),
		"SELECT * WHERE { ?y <k> ?z . OPTIONAL { ?y <n> ?x . } FILTER ( ?x = 1 || TRUE ) }", "x y z|- a b",
		"SELECT * WHERE { ?y <k> ?z . OPTIONAL { ?y <n> ?x . } FILTER ( ?x = 1 && TRUE ) }", "x y z",
		"SELECT * WHERE { ?y <k> ?z . FILTER ( ?x = 1 || TRUE ) }", "y z|a b",
		"SELECT * WHERE { ?y <k> ?z . FILTER ( ?x = 1 && TRUE ) }", "y z",
		"SELECT * WHERE { ?y <k> ?z . BIND ( 999999999 + 1 AS ?x ) }", "x y z|- a b",
		"SELECT * WHERE { ?y <k> ?z . BIND ( 999999998 + 1 AS ?x ) }", "x y z|999999999 a b")
}

func someBase(t *testing.T) engine.World {
	t.Helper()
	return worldOf(t, "a k b|b k c|c k c|a n 1|b n 2|c n 2", "e0", "c k d|a n 5|b n 2")
}

// P14.1: columns, all or some of them, and their order; rows come in order, whether keys are given or not.
func TestRunColumns(t *testing.T) {
	checkRuns(t, someBase(t),
		"SELECT * WHERE { ?y <k> ?x . }", "x y|b a|c b|c c",
		"SELECT ?y ?x WHERE { ?y <k> ?x . }", "y x|a b|b c|c c",
		"SELECT ?x ?y WHERE { ?y <k> ?x . }", "x y|b a|c b|c c",
		"SELECT ?x WHERE { ?y <k> ?x . }", "x|b|c|c",
		"SELECT ?y WHERE { ?y <k> ?x . }", "y|a|b|c",
		"SELECT ?y WHERE { ?x <k> ?y . ?y <n> ?z . }", "y|b|c|c",
		"SELECT * WHERE { { ?x <k> <c> . } UNION { ?x <k> <b> . } UNION { <b> <k> ?x . } }", "x|a|b|c|c",
		"SELECT * WHERE { { ?x <n> ?y . } UNION { ?y <k> ?x . } }", "x y|a 1|b a|b 2|c b|c c|c 2",
		"SELECT * WHERE { ?x <q> ?y . }", "x y",
		"SELECT * WHERE { <a> <k> <b> . }", "|",
		"SELECT * WHERE { <a> <k> <a> . }", "",
		"SELECT * WHERE { }", "|",
		"SELECT * WHERE { { } UNION { } }", "||",
		"SELECT DISTINCT * WHERE { { } UNION { } }", "|",
		"SELECT * WHERE { ?x <k> ?y . SERVICE SILENT <e9> { ?z <n> ?x . } }", "x y z|a b -|b c -|c c -",
		"SELECT ?z ?x WHERE { ?x <k> <b> . SERVICE SILENT <e9> { ?z <n> ?x . } }", "z x|- a",
		"SELECT * WHERE { ?x <n> ?n . SERVICE <e0> { ?y <n> ?n . } }", "n x y|2 b b|2 c b")
}

// P14.1: the order by a key, from either end on, and by several; of those that are alike by their keys the order of all columns, from the beginning on.
func TestRunOrder(t *testing.T) {
	checkRuns(t, someBase(t),
		"SELECT ?x ?n WHERE { ?x <n> ?n . } ORDER BY ?n", "x n|a 1|b 2|c 2",
		"SELECT ?x ?n WHERE { ?x <n> ?n . } ORDER BY DESC ( ?n )", "x n|b 2|c 2|a 1",
		"SELECT ?x ?n WHERE { ?x <n> ?n . } ORDER BY DESC ( ?n ) DESC ( ?x )", "x n|c 2|b 2|a 1",
		"SELECT ?x ?n WHERE { ?x <n> ?n . } ORDER BY ?n DESC ( ?x )", "x n|a 1|c 2|b 2",
		"SELECT ?x ?n WHERE { ?x <n> ?n . } ORDER BY DESC ( ?x ) ?n", "x n|c 2|b 2|a 1",
		"SELECT ?n ?x WHERE { ?x <n> ?n . } ORDER BY ASC ( ?x )", "n x|1 a|2 b|2 c",
		"SELECT ?n ?x WHERE { ?x <n> ?n . } ORDER BY ?n ?n DESC ( ?n )", "n x|1 a|2 b|2 c",
		"SELECT * WHERE { VALUES ( ?x ) { ( 10 ) ( 9 ) ( <a> ) ( UNDEF ) ( \"1\" ) ( \"1.5\"^^<http://www.w3.org/2001/XMLSchema#decimal> ) } } ORDER BY ?x", "x|-|a|1.5|9|10|\"1\"",
		"SELECT * WHERE { VALUES ( ?x ) { ( 10 ) ( 9 ) ( <a> ) ( UNDEF ) } } ORDER BY DESC ( ?x )", "x|10|9|a|-")
}

// P14.1: each row once, and pieces: those of what has been put in order, each row once.
func TestRunPieces(t *testing.T) {
	checkRuns(t, someBase(t),
		"SELECT DISTINCT ?y WHERE { ?x <k> ?y . }", "y|b|c",
		"SELECT DISTINCT * WHERE { ?x <k> ?y . }", "x y|a b|b c|c c",
		"SELECT ?x WHERE { ?x <n> ?n . } LIMIT 2", "x|a|b",
		"SELECT ?x WHERE { ?x <n> ?n . } LIMIT 0", "x",
		"SELECT ?x WHERE { ?x <n> ?n . } LIMIT 3", "x|a|b|c",
		"SELECT ?x WHERE { ?x <n> ?n . } LIMIT 999999999", "x|a|b|c",
		"SELECT ?x WHERE { ?x <n> ?n . } OFFSET 1", "x|b|c",
		"SELECT ?x WHERE { ?x <n> ?n . } OFFSET 3", "x",
		"SELECT ?x WHERE { ?x <n> ?n . } OFFSET 999999999", "x",
		"SELECT ?x WHERE { ?x <n> ?n . } LIMIT 1 OFFSET 1", "x|b",
		"SELECT ?x WHERE { ?x <n> ?n . } LIMIT 5 OFFSET 2", "x|c",
		"SELECT ?x WHERE { ?x <n> ?n . } ORDER BY DESC ( ?x ) LIMIT 2", "x|c|b",
		"SELECT DISTINCT ?y WHERE { ?x <k> ?y . } OFFSET 2", "y",
		"SELECT DISTINCT ?n WHERE { ?x <n> ?n . } LIMIT 2", "n|1|2",
		"SELECT DISTINCT ?n WHERE { ?x <n> ?n . } ORDER BY DESC ( ?n ) LIMIT 1 OFFSET 1", "n|1",
		"SELECT * WHERE { { } UNION { } UNION { } } LIMIT 2", "||",
		"SELECT * WHERE { { } UNION { } UNION { } } OFFSET 2", "|")
}

// P14.1: groups, with aggregates and without, and of no rows.
func TestRunGroups(t *testing.T) {
	checkRuns(t, someBase(t),
		"SELECT ?y ( COUNT ( ?x ) AS ?c ) WHERE { ?x <k> ?y . } GROUP BY ?y", "y c|b 1|c 2",
		"SELECT ( COUNT ( ?x ) AS ?c ) ?y WHERE { ?x <k> ?y . } GROUP BY ?y", "c y|1 b|2 c",
		"SELECT ( COUNT ( * ) AS ?c ) WHERE { ?x <k> ?y . } GROUP BY ?y", "c|1|2",
		"SELECT ?y WHERE { ?x <k> ?y . } GROUP BY ?y", "y|b|c",
		"SELECT ?y WHERE { ?x <k> ?y . } GROUP BY ?x ?y", "y|b|c|c",
		"SELECT DISTINCT ?y WHERE { ?x <k> ?y . } GROUP BY ?x ?y", "y|b|c",
		"SELECT ?n ( COUNT ( * ) AS ?c ) ( MIN ( ?x ) AS ?a ) ( MAX ( ?x ) AS ?b ) ( SUM ( ?n ) AS ?s ) WHERE { ?x <n> ?n . } GROUP BY ?n", "n c a b s|1 1 a a 1|2 2 b c 4",
		"SELECT ( SUM ( ?n ) AS ?s ) ( COUNT ( * ) AS ?c ) WHERE { ?x <n> ?n . }", "s c|5 3",
		"SELECT ( SUM ( ?x ) AS ?s ) ( COUNT ( ?x ) AS ?c ) WHERE { ?x <n> ?n . }", "s c|- 3",
		"SELECT ( COUNT ( * ) AS ?c ) ( SUM ( ?n ) AS ?s ) ( MIN ( ?n ) AS ?m ) WHERE { ?x <q> ?n . }", "c s m|0 0 -",
		"SELECT ?x ( COUNT ( * ) AS ?c ) WHERE { ?x <q> ?n . } GROUP BY ?x", "x c",
		"SELECT ?x WHERE { ?x <q> ?n . } GROUP BY ?x", "x",
		"SELECT ( COUNT ( * ) AS ?c ) WHERE { }", "c|1",
		"SELECT ( COUNT ( ?z ) AS ?c ) ( COUNT ( * ) AS ?d ) WHERE { ?x <k> ?y . OPTIONAL { ?z <k> ?x . FILTER ( ?x != <c> ) } }", "c d|1 3")
}

// P14.1: what is made of groups: their order, each once, pieces; and variables of Silent services that came to nothing are there, not bound.
func TestRunOfGroups(t *testing.T) {
	w := someBase(t)
	checkRuns(t, w,
		"SELECT ?y ( COUNT ( ?x ) AS ?c ) WHERE { ?x <k> ?y . } GROUP BY ?y ORDER BY DESC ( ?c )", "y c|c 2|b 1",
		"SELECT ?y ( COUNT ( ?x ) AS ?c ) WHERE { ?x <k> ?y . } GROUP BY ?y ORDER BY DESC ( ?y ) LIMIT 1", "y c|c 2",
		"SELECT DISTINCT ( COUNT ( ?y ) AS ?c ) WHERE { ?x <k> ?y . } GROUP BY ?x", "c|1",
		"SELECT DISTINCT ?n ( COUNT ( * ) AS ?c ) WHERE { ?x <n> ?n . ?x <k> ?y . } GROUP BY ?n ?y ORDER BY DESC ( ?n ) ?c LIMIT 2 OFFSET 1", "n c|1 1",
		"SELECT ?x ( COUNT ( ?z ) AS ?c ) ( SUM ( ?z ) AS ?s ) ( MAX ( ?z ) AS ?m ) WHERE { SERVICE SILENT <e9> { ?x <n> ?z . } } GROUP BY ?x", "x c s m|- 0 0 -",
		"SELECT ?y ?x ( COUNT ( * ) AS ?c ) WHERE { ?x <k> ?y . SERVICE SILENT <e9> { ?z <n> ?x . } } GROUP BY ?x ?y ?z LIMIT 1", "y x c|b a 1",
		"SELECT ?n ( MIN ( ?x ) AS ?m ) WHERE { SERVICE SILENT <e0> { ?x <n> ?n . } } GROUP BY ?n", "n m|2 b|5 a")
}

// P14.1: what asks: a row, or none; never a column.
func TestRunAsk(t *testing.T) {
	checkRuns(t, someBase(t),
		"ASK { }", "|",
		"ASK { ?x <k> ?y . }", "|",
		"ASK { <a> <k> <b> . }", "|",
		"ASK { ?x <k> <a> . }", "",
		"ASK { ?x <k> ?y . FILTER ( ?x = ?y ) }", "|",
		"ASK { ?x <k> ?y . FILTER ( ?z ) }", "",
		"ASK { VALUES ( ?x ?y ) { } }", "",
		"ASK { VALUES ( ?x ?y ) { ( UNDEF UNDEF ) ( 1 2 ) } }", "|",
		"ASK { VALUES ( ) { ( ) ( ) } }", "|",
		"ASK { SERVICE SILENT <e9> { ?x <q> ?y . } }", "|",
		"ASK { SERVICE SILENT <e0> { ?x <q> ?y . } }", "",
		"ASK { SERVICE <e0> { <c> <k> ?y . } }", "|",
		"ASK { { ?x <q> ?y . } UNION { } }", "|",
		"ASK { ?x <k> ?y . MINUS { ?x <n> ?z . } }", "")
}

// P14.1: a nil base has no triples.
func TestRunOverNothing(t *testing.T) {
	for _, w := range []engine.World{{}, {Base: store.New()}, {Names: []string{"e0"}, Stores: []*store.Store{nil}}} {
		checkRuns(t, w,
			"SELECT * WHERE { ?x <k> ?y . OPTIONAL { ?y <k> ?z . } }", "x y z",
			"SELECT * WHERE { OPTIONAL { ?y <k> ?z . } }", "y z|- -",
			"SELECT ( COUNT ( * ) AS ?c ) WHERE { ?x <k> ?y . }", "c|0",
			"ASK { ?x <k> ?y . }", "",
			"ASK { }", "|")
	}
}

// P14.1: of grown queries what the chapter says: a table, or the first error.
func TestRunGrown(t *testing.T) {
	r := rand.New(rand.NewPCG(14, 4))
	count := map[api.Errno]int{}
	rows, groups := 0, 0
	for range 4000 {
		w, q := grownWorld(t, r), grownQuery(t, r, 7)
		if query.Check(q) != api.OK {
			continue
		}
		want, wanted := plainRun(w, q)
		got, e := engine.Run(w, q)
		told(t, q, got, e, want, wanted)
		count[e]++
		rows += len(got.Rows)
		if q.Grouped {
			groups += len(got.Rows)
		}
	}
	if count[api.OK] < 2000 || count[api.ErrNone] < 100 || count[api.ErrLong] < 5 || rows < 2000 || groups < 1000 {
		t.Errorf("%v, %d rows, %d of them groups", count, rows, groups)
	}
}
