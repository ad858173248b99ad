package request_test

import (
	"math"
	"slices"
	"strings"
	"testing"

	"legation/api"
	"legation/print"
	"legation/query"
	"legation/request"
)

// texts are queries of each form that chapter 8 names.
func texts() []string {
	return []string{
		"ASK { }", "ASK{?x<a>?y.}", "SELECT * WHERE { }", "SELECT * WHERE { ?x <a> ?y . }", "SELECT ?x WHERE { ?x <a> \"b\"@en . ?x ?p ?o . }", "SELECT ?y ?x WHERE { ?x <a> ?y . } ORDER BY ?x DESC ( ?y ) ASC ( ?x )", "SELECT DISTINCT ?x WHERE { ?x <a> \"1.50\" . } LIMIT 0 OFFSET 7",
		"SELECT ?x ( COUNT ( * ) AS ?n ) ( SUM ( ?y ) AS ?s ) WHERE { ?x <a> ?y . } GROUP BY ?x ORDER BY DESC ( ?s ) LIMIT 999999999 OFFSET 999999999", "SELECT ( MIN ( ?x ) AS ?a ) ( MAX ( ?y ) AS ?b ) ( COUNT ( ?y ) AS ?c ) WHERE { ?x <a> ?y . }", "SELECT ?x WHERE { ?x <a> ?y . } GROUP BY ?y ?x",
		"SELECT * WHERE { ?x <a> ?y . FILTER ( ?x = 1 || ! BOUND ( ?y ) && -?y < 2.50 ) }", "ASK { FILTER ( IF ( ISIRI ( ?x ) , COALESCE ( ?y , STR ( ?x ) , 1 ) , SAMETERM ( ?x , \"\\\"\\\\\\n\\t\" ) ) ) }", "SELECT * WHERE { ?x <a> ?y . OPTIONAL { ?y <b> ?z . FILTER ( ?z > 1 ) } OPTIONAL { } }", "ASK { OPTIONAL { FILTER ( 1 ) FILTER ( 2 ) } MINUS { ?x <a> ?y . FILTER ( ?x ) } }",
		"SELECT ?w WHERE { BIND ( 1 + 2 * ?x / 3 AS ?y ) BIND ( LANG ( ?y ) AS ?w ) }", "SELECT * WHERE { VALUES ( ?x ?y ) { ( <a> UNDEF ) ( 007 \"=&%\" ) } }", "ASK { VALUES ( ) { } VALUES ( ) { ( ) ( ) } VALUES ( ?z ) { } }",
		"ASK { SERVICE <http://e/?q=1&r=%20#s> { ?x <a> ?y . } SERVICE SILENT <e> { } }", "SELECT * WHERE { { ?x <a> ?y . } UNION { } UNION { { } { ?z <a> ?z . } } }", "ASK { { { } } { } }",
	}
}

// P16.2: what is asked of a query is print.Text's text, put.
func TestQueries(t *testing.T) {
	for i, s := range texts() {
		for _, id := range []int{0, i, 10 * i, 4095} {
			q := parsed(t, s)
			text, e := print.Text(q)
			if e != api.OK {
				t.Fatalf("%s: %d", s, e)
			}
			asks(t, id, q, plainPut(api.Request{Id: id, Text: text}))
			asked(t, plainPut(api.Request{Id: id, Text: s}), id, q)
			asked(t, plainPut(api.Request{Id: id, Text: "\n\t " + s + " "}), id, q)
		}
	}
}

// P16.2: bytes written out.
func TestBytesOfQueries(t *testing.T) {
	for s, b := range map[string]string{
		"ASK{}":                  "ASK%20%7B%20%7D",
		"SELECT*WHERE{}":         "SELECT%20%2A%20WHERE%20%7B%20%7D",
		"ASK{?x<a>\"=&%\".}":     "ASK%20%7B%20%3Fx%20%3Ca%3E%20%22%3D%26%25%22%20.%20%7D",
		"ASK{?x<a>\"\\n\\\"\".}": "ASK%20%7B%20%3Fx%20%3Ca%3E%20%22%5Cn%5C%22%22%20.%20%7D",
		"SELECT?x WHERE{?x<http://e/~a_b-c>?y.}LIMIT 010": "SELECT%20%3Fx%20WHERE%20%7B%20%3Fx%20%3Chttp%3A%2F%2Fe%2F~a_b-c%3E%20%3Fy%20.%20%7D%20LIMIT%2010",
	} {
		asks(t, 0, parsed(t, s), "id=0&query="+b)
		asks(t, 4095, parsed(t, s), "id=4095&query="+b)
	}
}

// P16.2: a query whose text has 4096 bytes is asked, one whose text has more is too long.
func TestLongQueries(t *testing.T) {
	for _, n := range []int{4095, 4096} {
		text, _ := print.Text(sized(n))
		if len(text) != n {
			t.Fatalf("%d bytes, not %d", len(text), n)
		}
		asks(t, 12, sized(n), plainPut(api.Request{Id: 12, Text: text}))
	}
	wide := sized(100)
	wide.Code[0].Triples[0].O.Text = strings.Repeat("\"", 2048) // each byte is two of the text's
	broad := sized(100)
	broad.Code[0].Triples = slices.Repeat(sized(150).Code[0].Triples, 32)
	for _, q := range []api.Query{sized(4097), sized(4098), wide, broad} {
		unasked(t, 12, q, api.ErrLong)
		unasked(t, 4096, q, api.ErrRange)
		unasked(t, -1, q, api.ErrRange)
	}
}

// P16.2: each Id, in its range or out of it.
func TestIdsOfQueries(t *testing.T) {
	q := parsed(t, "ASK { }")
	for _, id := range numbers() {
		if isId(id) {
			asks(t, id, q, plainPut(api.Request{Id: id, Text: "ASK { }"}))
		} else {
			unasked(t, id, q, api.ErrRange)
		}
	}
}

// wrongQueries are queries of which there is no text, each with its error.
func wrongQueries() map[api.Errno][]api.Query {
	right := sized(100).Code
	of := func(change func(q *api.Query)) api.Query {
		q := api.Query{Vars: []string{"x"}, Limit: -1, Code: right}
		change(&q)
		return q
	}
	return map[api.Errno][]api.Query{
		api.ErrForm: {
			{}, {Limit: -1}, {Ask: true, Limit: -1}, {Ask: true, Code: right}, {Ask: true, Limit: -1, Distinct: true, Code: right}, {Ask: true, Limit: -1, Code: []api.Op{{Kind: 10}}}, {Ask: true, Limit: -1, Code: append(slices.Clone(right), right...)},
			of(func(q *api.Query) { q.Limit = -2 }), of(func(q *api.Query) { q.Offset = -1 }), of(func(q *api.Query) { q.Offset = math.MaxInt }), of(func(q *api.Query) { q.Vars = []string{"x", "x"} }), of(func(q *api.Query) { q.Vars = []string{"?x"} }), of(func(q *api.Query) { q.Grouped = true }), of(func(q *api.Query) { q.Order = make([]api.Key, 1) }),
		},
		api.ErrScope: {
			of(func(q *api.Query) { q.Vars = nil }), of(func(q *api.Query) { q.Vars = []string{"z"} }), of(func(q *api.Query) { q.Order = []api.Key{{Name: "z"}} }), of(func(q *api.Query) { q.Grouped, q.Group = true, []string{"z"} }),
			{Ask: true, Limit: -1, Code: []api.Op{right[0], {Kind: api.OExtend, Name: "x", Formula: []api.Part{{Kind: api.XVar, Name: "x"}}}}},
		},
		api.ErrLong: {{Ask: true, Limit: -1, Code: slices.Repeat(right, api.MaxOps+1)}},
	}
}

// P16.2: print.Text's error is told ahead of an Id's.
func TestWrongQueries(t *testing.T) {
	for want, l := range wrongQueries() {
		for _, q := range l {
			if _, e := print.Text(q); e != want {
				t.Fatalf("%s: %d; not %d", brief(q), e, want)
			}
			for _, id := range []int{0, 1, 4095, 4096, -1, math.MaxInt, math.MinInt} {
				unasked(t, id, q, want)
			}
		}
	}
}

// refusedTexts are texts that are no query's, each with its error.
func refusedTexts() map[api.Errno][]string {
	return map[api.Errno][]string{
		api.ErrForm: {
			"", " ", "x", "ASK", "ASK {", "ASK }", "ASK { } }", "ASK { } ASK { }", "ask { }", "SELECT", "SELECT WHERE { }", "SELECT * { }", "SELECT ?x", "ASK { ?x <a> }", "ASK { ?x <a> ?y }", "ASK { \"a\" <a> ?y . }", "ASK { _:a <a> ?y . }", "ASK { ?x & ?y }", "ASK { \x00 }", "ASK { \xff }", "ASK { ?x <a> \"b . }", "id=1&query=a", "%", "=", "&",
			"SELECT * WHERE { } LIMIT", "SELECT * WHERE { } LIMIT 1234567890", "SELECT ?x ?x WHERE { ?x <a> ?y . }", "ASK { VALUES ( ?x ) { ( _:a ) } }", "ASK { SERVICE <a> { SERVICE <b> { } } }", "ASK { }\x00", strings.Repeat("{", 4096),
		},
		api.ErrScope: {"SELECT ?z WHERE { ?x <a> ?y . }", "SELECT ?x WHERE { ?x <a> ?y . } GROUP BY ?y", "ASK { ?x <a> ?y . BIND ( 1 AS ?x ) }", "SELECT ?x WHERE { ?x <a> ?y . } ORDER BY ?y", "SELECT ( SUM ( ?z ) AS ?n ) WHERE { ?x <a> ?y . }", "SELECT ( COUNT ( * ) AS ?x ) WHERE { ?x <a> ?y . }"},
		api.ErrLong:  {"ASK { " + strings.Repeat("OPTIONAL { } ", 100) + "}"},
	}
}

// P16.2: of a Text that is no query's the Id is told beside query.Parse's error.
func TestRefusedTexts(t *testing.T) {
	for want, l := range refusedTexts() {
		for _, s := range l {
			if _, e := query.Parse(s); e != want {
				t.Fatalf("%s: %d; not %d", brief(s), e, want)
			}
			for _, id := range []int{0, 3, 10, 4095} {
				n, q, e := request.Asked(plainPut(api.Request{Id: id, Text: s}))
				if n != id || !same(q, api.Query{}) || e != want {
					t.Fatalf("%s: %d, %s, %d; not %d, %d", brief(s), n, brief(q), e, id, want)
				}
			}
			for _, id := range []int{-1, 4096, 40950} {
				ungot(t, plainPut(api.Request{Id: id, Text: s}))
			}
		}
	}
}

// P16.2: bytes that are none's are told of ahead of a Text that is no query's, or is too long for one.
func TestGetAheadOfParse(t *testing.T) {
	long := plainEncode("SELECT ?z WHERE { }" + strings.Repeat(" ", 4096))
	for _, b := range []string{
		"", "id=1", "query=ASK%20%7B%20%7D", "query=ASK%20%7B%20%7D&id=1", "id=01&query=ASK%20%7B%20%7D", "id=4096&query=ASK%20%7B%20%7D", "id=1&query=ASK%20%7b%20%7d", "id=1&query=ASK { }", "id=1&query=ASK+%7B+%7D", "ASK { }", "id=1&query=ASK%20%7B%20%7D&", "id=1&query=%41SK%20%7B%20%7D",
		"id=1&query=" + long, "id=4096&query=" + plainEncode("SELECT ?z WHERE { }"), "id=01&query=SELECT", "id=1&q=SELECT",
	} {
		ungot(t, b)
	}
}
