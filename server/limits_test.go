package server_test

import (
	"slices"
	"strconv"
	"strings"
	"testing"

	"legation/api"
	"legation/server"
	"legation/store"
)

// P18.1: MaxPage rows are told, one more is too many; of what asks, counts, or wants a piece, however many there are.
func TestMostRows(t *testing.T) {
	for n := 1023; n <= 1026; n++ {
		s := storeOf(t, counted("k", n))
		all := plainServe(s, 1, "SELECT ?y WHERE { ?x <k> ?y . } LIMIT 1024")
		if n <= api.MaxPage {
			serves(t, s, "SELECT ?y WHERE { ?x <k> ?y . }", all)
			serves(t, s, "SELECT DISTINCT ?y WHERE { ?x <k> ?y . } LIMIT 1025", all)
		} else {
			serves(t, s, "SELECT ?y WHERE { ?x <k> ?y . }", failed(1, api.ErrLong))
			serves(t, s, "SELECT ?y WHERE { ?x <k> ?y . } ORDER BY DESC ( ?y )", failed(1, api.ErrLong))
			serves(t, s, "SELECT DISTINCT ?y WHERE { ?x <k> ?y . } LIMIT 1025", failed(1, api.ErrLong))
			serves(t, s, "SELECT ?y WHERE { ?x <k> ?y . } GROUP BY ?y", failed(1, api.ErrLong))
		}
		if len(all.Table.Rows) != min(n, api.MaxPage) || all.Table.Rows[1021][0] != integer("1021") {
			t.Fatalf("%d: %s", n, brief(all))
		}
		serves(t, s, "SELECT ?y WHERE { ?x <k> ?y . } LIMIT 1024", all)
		serves(t, s, "SELECT ?y WHERE { ?x <k> ?y . } OFFSET "+strconv.Itoa(n-1), tabled(1, of(t, "y|"+strconv.Itoa(n-1))))
		checkServes(t, s,
			"SELECT DISTINCT ?p WHERE { ?x ?p ?y . }", "p|k",
			"SELECT ( COUNT ( * ) AS ?n ) WHERE { ?x <k> ?y . }", "n|"+strconv.Itoa(n),
			"SELECT ?x WHERE { ?x <k> ?y . } LIMIT 0", "x",
			"ASK { ?x <k> ?y . }", "yes")
	}
}

// P18.1: rows without terms are rows, too: 1024 are told, one more is too many.
func TestMostEmptyRows(t *testing.T) {
	for n := 1023; n <= 1026; n++ {
		q := api.Query{Limit: -1, Code: []api.Op{{Kind: api.OTable, Table: api.Table{Rows: make([][]api.Term, 64)}}}}
		for range 5 { // 2048 rows
			q.Code = append(q.Code, api.Op{Kind: api.OTable, Table: api.Table{Rows: make([][]api.Term, 2)}}, api.Op{Kind: api.OJoin})
		}
		q.Limit = n
		want := failed(2, api.ErrLong)
		if n <= api.MaxPage {
			want = tabled(2, api.Table{Rows: make([][]api.Term, n)})
		}
		replied(t, n, server.Answer(nil, 2, q), want)
		q.Limit, q.Offset = -1, 2048-n
		replied(t, n, server.Answer(nil, 2, q), want)
	}
}

// heavy tells a store, and the reply to "SELECT ?x WHERE { <a> <k> ?x . }", whose bytes are n for that Id.
func heavy(t *testing.T, id, n int, unit string) (*store.Store, api.Reply) {
	t.Helper()
	r := tabled(id, api.Table{Vars: []string{"x"}})
	left := n - len(plainPut(r))
	for i := 0; left > 0; i++ {
		x := literal(strconv.Itoa(1000+i) + strings.Repeat(unit, 500))
		if left < 2500 {
			x = literal("z" + strings.Repeat("a", left-4))
		}
		left -= len(plainText(x)) + 1
		r.Table.Rows = append(r.Table.Rows, []api.Term{x})
	}
	var l []api.Triple
	for _, row := range r.Table.Rows {
		l = append(l, api.Triple{S: iri("a"), P: iri("k"), O: row[0]})
	}
	slices.Reverse(l)
	return storeOf(t, l), r
}

// P18.1: a reply of MaxMessage bytes is told, one more is too many.
func TestMostBytes(t *testing.T) {
	for _, unit := range []string{"a", "\n", "\"", "a\\"} {
		for _, id := range []int{0, 10, 999, 4095} {
			for n := 65535; n <= 65538; n++ {
				s, r := heavy(t, id, n, unit)
				if len(plainPut(r)) != n {
					t.Fatalf("%d bytes; not %d", len(plainPut(r)), n)
				}
				if n > api.MaxMessage {
					r = failed(id, api.ErrLong)
				}
				serves(t, s, "SELECT ?x WHERE { <a> <k> ?x . }", r)
			}
		}
	}
}

// P18.1: the digits of the Id count among the bytes.
func TestBytesOfIds(t *testing.T) {
	s, _ := heavy(t, 10, api.MaxMessage, "a")
	for _, id := range numbers() {
		q := parsed(t, "SELECT ?x WHERE { <a> <k> ?x . }")
		got := server.Answer(s, id, q)
		switch {
		case !isId(id):
			if !same(got, api.Reply{}) {
				t.Fatalf("%d: %s", id, brief(got))
			}
		case id < 100:
			replied(t, id, got, plainReply(s, id, q, api.OK))
			if got.Kind != api.RTable {
				t.Fatalf("%d: %s", id, brief(got))
			}
		default:
			replied(t, id, got, failed(id, api.ErrLong))
		}
	}
}

// P18.1: too many bytes in few rows, too many rows of few bytes, both; of what asks neither counts; a piece may be told.
func TestBytesAndRows(t *testing.T) {
	for _, n := range []int{15, 16, 17, 1024, 1025} {
		var l []api.Triple
		for i := range n {
			l = append(l, api.Triple{S: iri("a"), P: iri("k"), O: literal(strconv.Itoa(1000+i) + strings.Repeat("t", 4092))})
		}
		s := storeOf(t, l)
		all := failed(1, api.ErrLong)
		if n == 15 {
			all = plainServe(s, 1, "SELECT ?x WHERE { <a> <k> ?x . }")
		}
		serves(t, s, "SELECT ?x WHERE { <a> <k> ?x . }", all)
		serves(t, s, "SELECT ?x WHERE { <a> <k> ?x . } LIMIT 15 OFFSET 2", plainServe(s, 1, "SELECT ?x WHERE { <a> <k> ?x . } LIMIT 15 OFFSET 2"))
		serves(t, s, "ASK { <a> <k> ?x . }", truth(1, true))
		checkServes(t, s, "SELECT ( COUNT ( ?x ) AS ?n ) WHERE { <a> <k> ?x . }", "n|"+strconv.Itoa(n))
	}
}

// P18.1: a text of MaxText bytes is read; one more makes bytes that are no request's.
func TestMostText(t *testing.T) {
	s := someStore(t)
	for _, text := range []string{"ASK { ?x <k> <b> . }", "SELECT ?x WHERE { ?x <k> <b> . }", "SELECT ?z WHERE { }", "ASK { SERVICE <e> { } }", "x"} {
		want := plainServe(s, 4095, text)
		for n := 4094; n <= 4096; n++ {
			serves(t, s, text+strings.Repeat(" ", n-len(text)), want)
			serves(t, s, strings.Repeat("\n", n-len(text))+text, want)
		}
		unserved(t, s, plainRequest(4095, text+strings.Repeat(" ", 4097-len(text))))
		unserved(t, s, plainRequest(4095, strings.Repeat("\t", 4097-len(text))+text))
	}
	most := "ASK { <a> <k> \"" + strings.Repeat("o", 4096-len("ASK { <a> <k> \"\" . }")) + "\" . }"
	serves(t, s, most, truth(0, false))
	serves(t, s, strings.Repeat("{", 4096), failed(0, api.ErrForm))
}

// P18.1: MaxVars columns.
func TestMostColumns(t *testing.T) {
	names := columns("v", 32)
	group := "{ VALUES ( ?" + strings.Join(names, " ?") + " ) { (" + strings.Repeat(" UNDEF", 31) + " 7 ) } }"
	want := api.Table{Vars: slices.Sorted(slices.Values(names)), Rows: [][]api.Term{make([]api.Term, 32)}}
	want.Rows[0][slices.Index(want.Vars, "v31")] = integer("7")
	serves(t, nil, "SELECT * WHERE "+group, tabled(1, want))
	serves(t, nil, "ASK "+group, truth(1, true))
}
