package server_test

import (
	"fmt"
	"slices"
	"strconv"
	"strings"
	"testing"

	"legation/api"
	"legation/query"
	"legation/request"
	"legation/result"
	"legation/server"
	"legation/store"
	"legation/table"
	"legation/term"
)

// Terms are written as words: letters and what follows them are an IRI, digits a literal of TypeInteger, a hyphen alone is None, all else is a term's text without blanks. A row is words with blanks between, rows and triples have strokes between; a table has its variables ahead of its rows. An answer is a table, or "yes", "no", or "error" with its digit.

func iri(s string) api.Term      { return api.Term{Kind: api.Iri, Text: s} }
func literal(s string) api.Term  { return api.Term{Kind: api.Literal, Text: s} }
func variable(s string) api.Term { return api.Term{Kind: api.Var, Text: s} }
func integer(s string) api.Term {
	return api.Term{Kind: api.Literal, Text: s, Type: api.TypeInteger}
}

// cell tells the term of a word.
func cell(t *testing.T, s string) api.Term {
	t.Helper()
	switch {
	case s == "-":
		return api.Term{}
	case strings.Trim(s, "-0123456789") == "":
		return integer(s)
	case strings.ToLower(s[:1]) != strings.ToUpper(s[:1]):
		return iri(s)
	}
	x, e := term.Read(s)
	if e != api.OK {
		t.Fatalf("%q: %d", s, e)
	}
	return x
}

// cells tells the rows that a text stands for.
func cells(t *testing.T, s string) [][]api.Term {
	t.Helper()
	var rows [][]api.Term
	for _, line := range strings.Split(s, "|") {
		var row []api.Term
		for _, w := range strings.Fields(line) {
			row = append(row, cell(t, w))
		}
		rows = append(rows, row)
	}
	return rows
}

// of tells the table that a text stands for.
func of(t *testing.T, s string) api.Table {
	t.Helper()
	vars, rows, are := strings.Cut(s, "|")
	a := api.Table{Vars: strings.Fields(vars)}
	if are {
		a.Rows = cells(t, rows)
	}
	if table.Check(a) != api.OK {
		t.Fatalf("%q", s)
	}
	return a
}

// stored tells a store of the triples that a text stands for.
func stored(t *testing.T, s string) *store.Store {
	t.Helper()
	var l []api.Triple
	for _, row := range cells(t, s) {
		if len(row) == 3 {
			l = append(l, api.Triple{S: row[0], P: row[1], O: row[2]})
		}
	}
	return storeOf(t, l)
}

func storeOf(t *testing.T, l []api.Triple) *store.Store {
	t.Helper()
	x, e := store.Of(l)
	if e != api.OK {
		t.Fatalf("%v: %d", l, e)
	}
	return x
}

// parsed tells the query of a text.
func parsed(t *testing.T, s string) api.Query {
	t.Helper()
	q, e := query.Parse(s)
	if e != api.OK {
		t.Fatalf("%s: %d", brief(s), e)
	}
	return q
}

// brief tells what a failure's line has room for.
func brief(x any) string { return fmt.Sprintf("%.500s", fmt.Sprintf("%+v", x)) }

func tabled(id int, a api.Table) api.Reply { return api.Reply{Id: id, Kind: api.RTable, Table: a} }

func truth(id int, is bool) api.Reply { return api.Reply{Id: id, Kind: api.RTruth, Truth: is} }

func failed(id int, e api.Errno) api.Reply { return api.Reply{Id: id, Kind: api.RError, Err: e} }

// answer tells the reply that a text stands for.
func answer(t *testing.T, id int, s string) api.Reply {
	t.Helper()
	first, rest, _ := strings.Cut(s, " ")
	switch first {
	case "yes", "no":
		return truth(id, s == "yes")
	case "error":
		n, _ := strconv.Atoi(rest)
		return failed(id, api.Errno(n))
	}
	return tabled(id, of(t, s))
}

// same tells whether two replies are alike, lists without elements being nil's like.
func same(a, b api.Reply) bool {
	rows := slices.EqualFunc(a.Table.Rows, b.Table.Rows, slices.Equal[[]api.Term])
	return rows && slices.Equal(a.Table.Vars, b.Table.Vars) && a.Id == b.Id && a.Kind == b.Kind && a.Truth == b.Truth && a.Err == b.Err
}

// replied holds that what was told is a right reply, the one that it should be.
func replied(t *testing.T, what any, got, want api.Reply) {
	t.Helper()
	if !same(got, want) || result.Check(got) != api.OK {
		t.Fatalf("%s: %s; not %s", brief(what), brief(got), brief(want))
	}
}

// serves holds that the request of that Id and text is answered by want, twice; and that its query, if it is right, is answered alike.
func serves(t *testing.T, s *store.Store, text string, want api.Reply) {
	t.Helper()
	b := plainRequest(want.Id, text)
	if r, e := request.Get(b); e != api.OK || r != (api.Request{Id: want.Id, Text: text}) {
		t.Fatalf("%s: %d", brief(text), e)
	}
	for range 2 {
		if got, e := server.Serve(s, b); got != plainPut(want) || e != api.OK {
			t.Fatalf("%s: %s, %d; not %s", brief(text), brief(got), e, brief(plainPut(want)))
		}
	}
	if q, e := query.Parse(text); e == api.OK {
		replied(t, text, server.Answer(s, want.Id, q), want)
	}
}

// checkServes holds what is answered over a store: a query's text, then an answer, and so on.
func checkServes(t *testing.T, s *store.Store, cases ...string) {
	t.Helper()
	for i := 0; i < len(cases); i += 2 {
		for _, id := range []int{0, i, 10 * i, 4095} {
			want := answer(t, id, cases[i+1])
			serves(t, s, cases[i], want)
			replied(t, cases[i], plainServe(s, id, cases[i]), want)
		}
	}
}

// unserved holds that bytes are no request's.
func unserved(t *testing.T, s *store.Store, b string) {
	t.Helper()
	if got, e := server.Serve(s, b); got != "" || e != api.ErrForm {
		t.Fatalf("%s: %s, %d", brief(b), brief(got), e)
	}
}

// columns are n names that begin so.
func columns(begin string, n int) []string {
	var l []string
	for i := range n {
		l = append(l, begin+strconv.Itoa(i))
	}
	return l
}

// counted are n triples of this predicate, whose subjects and objects are numbered.
func counted(p string, n int) []api.Triple {
	var l []api.Triple
	for i := range n {
		l = append(l, api.Triple{S: iri("s" + strconv.Itoa(i)), P: iri(p), O: integer(strconv.Itoa(i))})
	}
	return l
}

// numbers are Ids at their bounds and beyond.
func numbers() []int {
	return []int{-1 << 63, -1 << 32, -4096, -10, -1, 0, 1, 9, 10, 11, 99, 100, 101, 999, 1000, 1001, 4094, 4095, 4096, 4097, 9999, 10000, 40950, 1 << 16, 1 << 32, 1<<32 + 7, 1<<63 - 1}
}

func isId(n int) bool { return 0 <= n && n <= 4095 }
