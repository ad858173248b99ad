package server_test

import (
	"slices"
	"strings"
	"testing"

	"legation/api"
	"legation/print"
	"legation/query"
	"legation/server"
	"legation/store"
)

// P18.1: each Id in its range, and out of it: then nothing, whatever the query is.
func TestIdsOfAnswers(t *testing.T) {
	s := someStore(t)
	for _, id := range numbers() {
		for text, want := range map[string]string{"ASK { }": "yes", "SELECT ?x WHERE { ?x <n> 1 . }": "error 2", "SELECT ?x WHERE { ?x <k> <b> . }": "x|a", "SELECT ?z WHERE { ?x <k> ?z . }": "z|b|c|c", "ASK { SERVICE <e> { } }": "error 9"} {
			q, e := query.Parse(text)
			got := server.Answer(s, id, q)
			switch {
			case !isId(id):
				if !same(got, api.Reply{}) {
					t.Fatalf("%d, %s: %s", id, text, brief(got))
				}
			case e != api.OK: // of what is read beside an error all is zero
				replied(t, text, got, failed(id, api.ErrForm))
			default:
				replied(t, text, got, answer(t, id, want))
				serves(t, s, text, answer(t, id, want))
			}
		}
	}
}

// P18.1: an Id out of its range is told ahead of all else: of queries that are not right, of services, of what is too long, of a nil store.
func TestIdAheadOfAll(t *testing.T) {
	full := storeOf(t, counted("k", 1025))
	for _, s := range []*store.Store{nil, full} {
		for _, q := range []api.Query{{}, {Ask: true, Limit: -1}, parsed(t, "ASK { SERVICE <e> { } }"), parsed(t, "SELECT * WHERE { ?x <k> ?y . }"), parsed(t, "ASK { ?x <k> ?y . ?u <k> ?v . }"), {Vars: []string{"z"}, Limit: -1, Code: parsed(t, "ASK { }").Code}} {
			for _, id := range numbers() {
				got := server.Answer(s, id, q)
				if isId(id) == same(got, api.Reply{}) {
					t.Fatalf("%d, %s: %s", id, brief(q), brief(got))
				}
			}
		}
	}
}

// wrongQueries are queries that are not right, each with query.Check's error; most of them would be of a service, too.
func wrongQueries(t *testing.T) map[api.Errno][]api.Query {
	t.Helper()
	plain, far := parsed(t, "ASK { ?x <k> ?y . }").Code, parsed(t, "ASK { SERVICE <e> { ?x <k> ?y . } }").Code
	l := map[api.Errno][]api.Query{api.ErrForm: {{}, {Limit: -1}, {Ask: true, Limit: -1}, {Vars: []string{"x"}, Limit: -1}}}
	for _, c := range [][]api.Op{plain, far} {
		of := func(e api.Errno, change func(q *api.Query)) {
			q := api.Query{Vars: []string{"x"}, Limit: -1, Code: c}
			change(&q)
			l[e] = append(l[e], q)
		}
		of(api.ErrForm, func(q *api.Query) { q.Limit = -2 })
		of(api.ErrForm, func(q *api.Query) { q.Limit = 1000000000 })
		of(api.ErrForm, func(q *api.Query) { q.Offset = -1 })
		of(api.ErrForm, func(q *api.Query) { q.Offset = 1<<63 - 1 })
		of(api.ErrForm, func(q *api.Query) { q.Vars = []string{"x", "x"} })
		of(api.ErrForm, func(q *api.Query) { q.Vars = []string{"?x"} })
		of(api.ErrForm, func(q *api.Query) { q.Vars = columns("v", 33) })
		of(api.ErrForm, func(q *api.Query) { q.Grouped = true })
		of(api.ErrForm, func(q *api.Query) { q.Group = []string{"x"} })
		of(api.ErrForm, func(q *api.Query) { q.Order = make([]api.Key, 1) })
		of(api.ErrForm, func(q *api.Query) { q.Aggs, q.Grouped = []api.Agg{{Kind: 5, Over: "x", Name: "n"}}, true })
		of(api.ErrForm, func(q *api.Query) { q.Ask = true })
		of(api.ErrForm, func(q *api.Query) { q.Ask, q.Vars, q.Limit = true, nil, 0 })
		of(api.ErrForm, func(q *api.Query) { q.Ask, q.Vars, q.Distinct = true, nil, true })
		of(api.ErrForm, func(q *api.Query) { q.Ask, q.Vars, q.Offset = true, nil, 1 })
		of(api.ErrForm, func(q *api.Query) { q.Code = append(slices.Clone(c), c...) })
		of(api.ErrForm, func(q *api.Query) { q.Code = append(slices.Clone(c), api.Op{Kind: 10}) })
		of(api.ErrForm, func(q *api.Query) { q.Code = append(slices.Clone(c), api.Op{Kind: api.OService}) })
		of(api.ErrForm, func(q *api.Query) { q.Code = append(slices.Clone(c), api.Op{Kind: api.OFilter}) })
		of(api.ErrForm, func(q *api.Query) { q.Code = append(slices.Clone(far), far[len(far)-1]) })
		of(api.ErrScope, func(q *api.Query) { q.Vars = nil })
		of(api.ErrScope, func(q *api.Query) { q.Vars = []string{"z"} })
		of(api.ErrScope, func(q *api.Query) { q.Order = []api.Key{{Name: "y"}} })
		of(api.ErrScope, func(q *api.Query) { q.Group, q.Grouped = []string{"y"}, true })
		of(api.ErrScope, func(q *api.Query) { q.Group, q.Grouped = []string{"z", "x"}, true })
		of(api.ErrScope, func(q *api.Query) {
			q.Code = append(slices.Clone(c), api.Op{Kind: api.OExtend, Name: "x", Formula: []api.Part{{Kind: api.XVar, Name: "y"}}})
		})
		of(api.ErrLong, func(q *api.Query) {
			q.Code = append(slices.Clone(c), slices.Repeat([]api.Op{{Kind: api.OFilter, Formula: []api.Part{{Kind: api.XVar, Name: "y"}}}}, api.MaxOps)...)
		})
		of(api.ErrLong, func(q *api.Query) { q.Code = slices.Repeat(c, api.MaxOps+1) })
	}
	return l
}

// P18.1: of a query that is not right query.Check's error, ahead of a service in it.
func TestWrongQueries(t *testing.T) {
	full := storeOf(t, counted("k", 1025))
	for want, l := range wrongQueries(t) {
		for _, q := range l {
			if e := query.Check(q); e != want {
				t.Fatalf("%s: %d; not %d", brief(q), e, want)
			}
			for _, id := range []int{0, 7, 4095} {
				for _, s := range []*store.Store{nil, full} {
					replied(t, q, server.Answer(s, id, q), failed(id, want))
				}
			}
		}
	}
}

// P18.1: a query is answered as if it had been read, also one whose text would be too long for a request.
func TestLongQueries(t *testing.T) {
	s := someStore(t)
	long := api.Term{Kind: api.Literal, Text: strings.Repeat("\n", api.MaxText)}
	rows := slices.Repeat([][]api.Term{{long}, {iri("a")}}, 4)
	q := api.Query{Vars: []string{"x"}, Distinct: true, Limit: -1, Code: []api.Op{{Kind: api.OTable, Table: api.Table{Vars: []string{"x"}, Rows: rows}}}}
	if text, e := print.Text(q); e != api.OK || len(text) <= api.MaxText {
		t.Fatalf("%d bytes, %d", len(text), e)
	}
	replied(t, q, server.Answer(s, 3, q), tabled(3, api.Table{Vars: []string{"x"}, Rows: [][]api.Term{{iri("a")}, {long}}}))
	ask := api.Query{Ask: true, Limit: -1, Code: q.Code}
	replied(t, ask, server.Answer(s, 3, ask), truth(3, true))
	q = api.Query{Ask: true, Limit: -1, Code: []api.Op{{Kind: api.OBasic, Triples: slices.Repeat([]api.Triple{{S: variable("x"), P: iri("k"), O: long}}, 32)}}}
	replied(t, q, server.Answer(s, 3, q), truth(3, false))
	s.Add(api.Triple{S: iri("a"), P: iri("k"), O: long})
	replied(t, q, server.Answer(s, 3, q), truth(3, true))
}

// P18.1: lists without elements are nil's like.
func TestEmptyLists(t *testing.T) {
	s := someStore(t)
	q := parsed(t, "ASK { ?x <k> ?y . }")
	q.Vars, q.Aggs, q.Group, q.Order = []string{}, []api.Agg{}, []string{}, []api.Key{}
	replied(t, q, server.Answer(s, 1, q), truth(1, true))
	q = parsed(t, "SELECT ?x WHERE { ?x <k> ?y . } LIMIT 1")
	q.Aggs, q.Group, q.Order = []api.Agg{}, []string{}, []api.Key{}
	replied(t, q, server.Answer(s, 1, q), answer(t, 1, "x|a"))
	q = parsed(t, "SELECT * WHERE { <a> <k> <b> . }")
	q.Vars = []string{}
	replied(t, q, server.Answer(s, 1, q), answer(t, 1, "|"))
}
