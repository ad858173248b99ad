package server_test

import (
	"slices"
	"strings"
	"testing"

	"legation/api"
	"legation/query"
	"legation/store"
)

// P18.1: bytes that are no request's are refused, and nothing is told beside the error, whatever the store is.
func TestNoRequest(t *testing.T) {
	for _, s := range []*store.Store{nil, store.New(), someStore(t)} {
		for _, b := range []string{
			"", " ", "x", "=", "&", "id", "id=", "id=1", "id=1&", "query=", "query=ASK", "ASK { }", "1\ntrue\n",
			"id=&query=ASK%20%7B%20%7D", "id=x&query=ASK%20%7B%20%7D", "id=01&query=ASK%20%7B%20%7D", "id=00&query=x", "id=-1&query=x", "id=-0&query=x", "id=%2B1&query=x", "id=1.0&query=x", "id=4096&query=ASK%20%7B%20%7D", "id=9999&query=x", "id=18446744073709551617&query=x",
			"ID=1&query=x", "id=1&Query=x", "id=1&q=x", "id=1&text=x", "%69d=1&query=x", "id=%31&query=x",
			"query=ASK%20%7B%20%7D&id=1", "id=1&id=1", "query=x&query=x", "id=1&query=x&", "&id=1&query=x", "id=1&&query=x", "id=1&query=x&query=x", "id=1&query=x&a=b", "a=b&id=1&query=x",
			"id=1&query=ASK { }", "id=1&query=ASK+%7B+%7D", "id=1&query=ASK%20%7b%20%7d", "id=1&query=%", "id=1&query=%2", "id=1&query=%zz", "id=1&query=%41SK%20%7B%20%7D", "id=1&query=a=b", "id=1&query=?", "id=1&query=\xff", "id=1&query=\x00", "id=1&query=x\n", "id=1;query=x", "id:1&query=x",
			"id=1&query=" + strings.Repeat("a", 4097), "id=1&query=" + strings.Repeat("%20", 4097), "id=4096&query=" + strings.Repeat("a", 4097), strings.Repeat("a=b&", 64) + "a=b", strings.Repeat("x", 1<<20),
		} {
			unserved(t, s, b)
		}
		for _, id := range numbers() {
			if !isId(id) {
				unserved(t, s, plainRequest(id, "ASK { }"))
				unserved(t, s, plainRequest(id, "x"))
			}
		}
	}
}

// refusedTexts are texts that are no query's, each with query.Parse's error.
func refusedTexts() map[api.Errno][]string {
	return map[api.Errno][]string{
		api.ErrForm: {
			"", " ", "x", "ASK", "ASK {", "ASK }", "ASK { } }", "ASK { } ASK { }", "ask { }", "SELECT", "SELECT WHERE { }", "SELECT * { }", "ASK { ?x <a> }", "ASK { ?x <a> ?y }", "ASK { \"a\" <a> ?y . }", "ASK { _:a <a> ?y . }", "ASK { ?x & ?y }", "ASK { \x00 }", "ASK { \xff }", "ASK { ?x <a> \"b . }", "id=1&query=x",
			"SELECT * WHERE { } LIMIT", "SELECT * WHERE { } LIMIT 1234567890", "SELECT ?x ?x WHERE { ?x <a> ?y . }", "ASK { VALUES ( ?x ) { ( _:a ) } }", "ASK { SERVICE <a> { SERVICE <b> { } } }", "ASK { SERVICE <a> }", "ASK { SERVICE ?x { } }", "ASK { }\x00",
		},
		api.ErrScope: {"SELECT ?z WHERE { }", "SELECT ?z WHERE { ?x <k> ?y . }", "SELECT ?x WHERE { ?x <k> ?y . } GROUP BY ?y", "ASK { ?x <k> ?y . BIND ( 1 AS ?x ) }", "SELECT ?x WHERE { ?x <k> ?y . } ORDER BY ?y", "SELECT ( SUM ( ?z ) AS ?n ) WHERE { ?x <k> ?y . }", "SELECT ( COUNT ( * ) AS ?x ) WHERE { ?x <k> ?y . }"},
		api.ErrLong:  {"ASK { " + strings.Repeat("OPTIONAL { } ", 100) + "}"},
	}
}

// P18.1: a text that is no query's is answered with query.Parse's error, ahead of what the store has.
func TestNoQuery(t *testing.T) {
	full := storeOf(t, counted("k", 1025))
	for want, l := range refusedTexts() {
		for _, text := range l {
			if _, e := query.Parse(text); e != want {
				t.Fatalf("%s: %d; not %d", brief(text), e, want)
			}
			for _, id := range []int{0, 3, 4095} {
				for _, s := range []*store.Store{nil, full} {
					serves(t, s, text, failed(id, want))
				}
			}
		}
	}
}

// P18.1: a service in the code, silent or not, at its top or below, first or last, is an endpoint's error, whatever the query makes of it.
func TestServices(t *testing.T) {
	s := someStore(t)
	for _, group := range []string{
		"{ SERVICE <e> { } }", "{ SERVICE SILENT <e> { } }", "{ SERVICE <e> { ?x <k> ?y . } }", "{ SERVICE SILENT <e> { ?x <k> ?y . } }",
		"{ ?x <k> ?y . SERVICE <e> { ?y <k> ?z . } }", "{ SERVICE SILENT <e> { ?y <k> ?z . } ?x <k> ?y . }", "{ ?x <q> ?y . SERVICE <e> { } }", "{ SERVICE <e> { } FILTER ( 1 = 2 ) }", "{ SERVICE SILENT <e> { } BIND ( 1 AS ?u ) }",
		"{ { } UNION { SERVICE <e> { } } }", "{ { SERVICE <e> { } } UNION { } }", "{ OPTIONAL { SERVICE SILENT <e> { } } }", "{ MINUS { SERVICE <e> { } } }", "{ ?x <k> ?y . MINUS { ?x <k> ?z . OPTIONAL { { } UNION { SERVICE SILENT <e> { ?a <b> ?c . } } } } }",
		"{ SERVICE <e> { } SERVICE SILENT <f> { } }", "{ SERVICE <e> { ?x <k> ?y . OPTIONAL { ?y <k> ?z . } FILTER ( ?z ) } }", "{ VALUES ( ?x ) { } SERVICE <e> { } }",
	} {
		for _, head := range []string{"ASK ", "SELECT * WHERE ", "SELECT DISTINCT * WHERE ", "SELECT ( COUNT ( * ) AS ?n ) WHERE "} {
			for _, tail := range []string{"", " LIMIT 0", " LIMIT 1 OFFSET 7"} {
				if head == "ASK " && tail != "" {
					continue
				}
				for _, s := range []*store.Store{nil, s} {
					serves(t, s, head+group+tail, failed(5, api.ErrFault))
				}
			}
		}
	}
}

// long tells a store in which some codes make more rows than may be.
func long(t *testing.T) *store.Store {
	t.Helper()
	return storeOf(t, slices.Concat(counted("k", 65), counted("n", 65)))
}

// P18.1: a query that the engine refuses is answered with its error, also where it asks, or wants no row.
func TestRefusedByEngine(t *testing.T) {
	s := long(t)
	names := "?" + strings.Join(columns("v", 20), " <k> \"1\" . ?") + " <k> \"1\" . VALUES ( ?" + strings.Join(columns("w", 13), " ?") + " ) { }"
	for _, group := range []string{
		"{ ?x <k> ?y . ?u <n> ?v . }", "{ { ?x <k> ?y . } { ?u <n> ?v . } }", "{ ?x <k> ?y . OPTIONAL { ?u <n> ?v . } }", "{ ?x <k> ?y . ?u <n> ?v . FILTER ( 1 = 2 ) }", "{ ?x <k> ?y . MINUS { ?x <k> ?y . ?u <n> ?v . } }", "{ { ?x <k> ?y . ?u <n> ?v . } UNION { } }",
		"{ " + names + " }", // 33 variables, though no row
	} {
		for _, q := range []string{"ASK " + group, "SELECT ( COUNT ( * ) AS ?c ) WHERE " + group, "SELECT ( COUNT ( * ) AS ?c ) WHERE " + group + " LIMIT 0"} {
			serves(t, s, q, failed(6, api.ErrLong))
		}
	}
	serves(t, s, "SELECT ?x ?v WHERE { ?x <k> ?y . ?u <n> ?v . } LIMIT 1", failed(6, api.ErrLong))
	serves(t, s, "SELECT DISTINCT ?p WHERE { ?x ?p ?y . ?u <n> ?v . }", failed(6, api.ErrLong))
}

// P18.1: of several answers the one that the chapter names first: of a text that is none's, of a service, of the engine, of what is too long.
func TestOrderOfErrors(t *testing.T) {
	s := long(t)
	for text, want := range map[string]api.Errno{
		"SELECT ?z WHERE { SERVICE <e> { } }":                                 api.ErrScope,
		"SELECT ?z WHERE { ?x <k> ?y . ?u <n> ?v . }":                         api.ErrScope,
		"SELECT ?z WHERE { SERVICE <e> { ?x <k> ?y . ?u <n> ?v . } }":         api.ErrScope,
		"SELECT * WHERE { SERVICE <e> { } ":                                   api.ErrForm,
		"ASK { SERVICE <e> { SERVICE <f> { ?x <k> ?y . ?u <n> ?v . } } }":     api.ErrForm,
		"ASK { SERVICE <e> { ?x <k> ?y . ?u <n> ?v . } }":                     api.ErrFault,
		"ASK { ?x <k> ?y . ?u <n> ?v . SERVICE <e> { } }":                     api.ErrFault,
		"ASK { SERVICE SILENT <e> { } ?x <k> ?y . ?u <n> ?v . }":              api.ErrFault,
		"SELECT * WHERE { ?x <k> ?y . ?u <n> ?v . SERVICE SILENT <e> { } }":   api.ErrFault,
		"SELECT ?x WHERE { ?x <k> ?y . ?u <n> ?v . } LIMIT 1":                 api.ErrLong,
		"ASK { SERVICE <e> { } " + strings.Repeat("OPTIONAL { } ", 100) + "}": api.ErrLong,
	} {
		serves(t, s, text, failed(8, want))
	}
}
