package server_test

import (
	"slices"
	"strconv"
	"testing"

	"legation/api"
	"legation/engine"
	"legation/print"
	"legation/query"
	"legation/result"
	"legation/server"
	"legation/store"
)

// P18.1: of grown stores and texts what the chapter says.
func TestServeGrown(t *testing.T) {
	g := newGrower(1)
	n := map[string]int{}
	for range 2000 {
		s, text, id := g.store(t), g.text(t), g.r.IntN(4096)
		want := plainServe(s, id, text)
		serves(t, s, text, want)
		n[strconv.Itoa(want.Kind)+" "+want.Err.Error()]++
	}
	for _, what := range []string{"1 ok", "2 ok", "3 form", "3 long", "3 scope", "3 fault"} {
		if n[what] < 15 {
			t.Errorf("%s: %d of %v", what, n[what], n)
		}
	}
}

// P18.1: of grown queries, right and not right, and Ids, in their range and out of it, what the chapter says.
func TestAnswerGrown(t *testing.T) {
	g := newGrower(2)
	wrong := 0
	for range 2000 {
		s, q, id := g.store(t), g.query(t, 6, true), one(g, g.r.IntN(4096), g.r.IntN(4096), g.r.IntN(4100)-2, one(g, numbers()...))
		if g.r.IntN(4) == 0 {
			q = g.spoilt(q)
		}
		if query.Check(q) != api.OK {
			wrong++
		}
		got := server.Answer(s, id, q)
		if want := plainAnswer(s, id, q); !same(got, want) {
			t.Fatalf("%d, %s: %s; not %s", id, brief(q), brief(got), brief(want))
		}
	}
	if wrong < 200 {
		t.Errorf("just %d were wrong", wrong)
	}
}

// spoilt tells a query that may be right no more.
func (g *grower) spoilt(q api.Query) api.Query {
	switch g.r.IntN(8) {
	case 0:
		q.Limit = one(g, -2, 1000000000, -1<<63, 0)
	case 1:
		q.Offset = one(g, -1, 1000000000, 1<<63-1, 1)
	case 2:
		q.Vars = append(slices.Clone(q.Vars), one(g, "x", "u", "", "?x"))
	case 3:
		q.Ask = !q.Ask
	case 4:
		q.Grouped = !q.Grouped
	case 5:
		q.Code = q.Code[1:]
	case 6:
		q.Code = append(slices.Clone(q.Code), api.Op{Kind: g.r.IntN(12) - 1, Name: one(g, "", "x", "e")})
	case 7:
		q.Order = append(slices.Clone(q.Order), api.Key{Name: one(g, "", "x", "u")})
	}
	return q
}

// P18.1: Serve of a right query's request is Put of Answer's reply to what is read of it.
func TestServeAndAnswer(t *testing.T) {
	g := newGrower(3)
	kinds := map[int]int{}
	for range 1000 {
		s, q, id := g.store(t), g.query(t, 6, true), g.r.IntN(4096)
		text, e := print.Text(q)
		if e != api.OK || len(text) > api.MaxText {
			continue
		}
		read := parsed(t, text)
		r := server.Answer(s, id, read)
		replied(t, text, server.Answer(s, id, q), r)
		want, e := result.Put(r)
		if e != api.OK {
			t.Fatalf("%s: %d", brief(r), e)
		}
		if got, e := server.Serve(s, plainRequest(id, text)); got != want || e != api.OK {
			t.Fatalf("%s: %s, %d; not %s", text, brief(got), e, brief(want))
		}
		kinds[r.Kind]++
	}
	if min(kinds[api.RTable], kinds[api.RTruth], kinds[api.RError]) < 100 {
		t.Errorf("%v", kinds)
	}
}

// P18.2: the same bytes are always answered alike, over the same triples; and by a right reply, with the request's Id. Other bytes are answered by nothing.
func TestRightReplies(t *testing.T) {
	g := newGrower(4)
	right, none := 0, 0
	for range 1500 {
		l := g.triples(30)
		s, again := storeOf(t, l), storeOf(t, slices.Concat(slices.Repeat(l[len(l)/2:], 2), l))
		b := plainRequest(g.r.IntN(4096), g.text(t))
		if g.r.IntN(3) == 0 {
			b = g.changed(b)
		}
		id, _, is := plainGet(b)
		if !is {
			none++
			unserved(t, s, b)
			continue
		}
		got, e := server.Serve(s, b)
		r, err := result.Get(got)
		if e != api.OK || err != api.OK || r.Id != id || result.Check(r) != api.OK {
			t.Fatalf("%s: %s, %d, %d", brief(b), brief(got), e, err)
		}
		for _, s := range []*store.Store{s, again} {
			if x, e := server.Serve(s, b); x != got || e != api.OK {
				t.Fatalf("%s: %s, then %s, %d", brief(b), brief(got), brief(x), e)
			}
		}
		right++
	}
	if right < 700 || none < 150 {
		t.Errorf("%d were right, %d were none", right, none)
	}
}

// P18.2: whatever the Id, it says nothing of what is answered.
func TestIds(t *testing.T) {
	g := newGrower(5)
	for range 300 {
		s, q := storeOf(t, g.triples(30)), g.query(t, 6, true)
		first := server.Answer(s, 0, q)
		for _, id := range numbers() {
			if isId(id) {
				first.Id = id
				replied(t, q, server.Answer(s, id, q), first)
			}
		}
	}
}

// pagesOf tells the rows of all pages of so many rows, one behind the other; Serve tells those that Answer does.
func pagesOf(t *testing.T, s *store.Store, q api.Query, page int) api.Table {
	t.Helper()
	all := api.Table{}
	for at := 0; ; at += page {
		p := q
		p.Offset, p.Limit = q.Offset+at, page
		if q.Limit >= 0 {
			p.Limit = min(page, max(0, q.Limit-at))
		}
		r := server.Answer(s, at%4096, p)
		if text, e := print.Text(p); e == api.OK && len(text) <= api.MaxText {
			if b, e := server.Serve(s, plainRequest(r.Id, text)); b != plainPut(r) || e != api.OK {
				t.Fatalf("%s: %s, %d; not %s", text, brief(b), e, brief(r))
			}
		}
		if r.Kind != api.RTable || len(r.Table.Rows) > p.Limit {
			t.Fatalf("%s: %s", brief(p), brief(r))
		}
		all.Vars = r.Table.Vars
		all.Rows = append(all.Rows, r.Table.Rows...)
		if len(r.Table.Rows) < page {
			return all
		}
	}
}

// checkPages holds that pages of that length that follow one another are a query's table.
func checkPages(t *testing.T, s *store.Store, q api.Query, page int) int {
	t.Helper()
	want, e := engine.Run(engine.World{Base: s}, q)
	if e != api.OK {
		t.Fatalf("%s: %d", brief(q), e)
	}
	if got := pagesOf(t, s, q, page); !same(tabled(0, got), tabled(0, want)) {
		t.Fatalf("pages of %d, %s: %s; not %s", page, brief(q), brief(got), brief(want))
	}
	return len(want.Rows)
}

// P18.3: pages that follow one another are the table, whatever its order, each row once or as often as it comes, also of a piece of it.
func TestPages(t *testing.T) {
	s := storeOf(t, slices.Concat(counted("k", 30), counted("n", 12)))
	for _, text := range []string{
		"SELECT * WHERE { ?x <k> ?y . }", "SELECT ?x WHERE { ?x ?p ?y . }", "SELECT DISTINCT ?x WHERE { ?x ?p ?y . }", "SELECT ?p WHERE { ?x ?p ?y . }", "SELECT DISTINCT ?p WHERE { ?x ?p ?y . }", "SELECT ?x ?y WHERE { ?x ?p ?y . } ORDER BY DESC ( ?y )", "SELECT DISTINCT ?y WHERE { ?x ?p ?y . } ORDER BY DESC ( ?y )", "SELECT ?p ?x WHERE { ?x ?p ?y . } ORDER BY ?x DESC ( ?p )",
		"SELECT ?x ( COUNT ( ?p ) AS ?n ) WHERE { ?x ?p ?y . } GROUP BY ?x ORDER BY DESC ( ?n )", "SELECT ( COUNT ( * ) AS ?n ) WHERE { ?x ?p ?y . }", "SELECT * WHERE { ?x <q> ?y . }", "SELECT * WHERE { }", "SELECT * WHERE { { } UNION { } UNION { } }", "SELECT * WHERE { <a> <k> <b> . }",
		"SELECT ?x WHERE { ?x ?p ?y . } OFFSET 5", "SELECT ?x WHERE { ?x ?p ?y . } LIMIT 17", "SELECT ?x WHERE { ?x ?p ?y . } LIMIT 17 OFFSET 5", "SELECT DISTINCT ?x WHERE { ?x ?p ?y . } ORDER BY DESC ( ?x ) LIMIT 17 OFFSET 20", "SELECT ?x WHERE { ?x ?p ?y . } OFFSET 50",
		"SELECT * WHERE { ?x <k> ?y . OPTIONAL { ?x <n> ?z . } } ORDER BY ?z",
	} {
		for page := 1; page < 46; page++ { // there are at most 42 rows
			checkPages(t, s, parsed(t, text), page)
		}
		checkPages(t, s, parsed(t, text), api.MaxPage)
	}
}

// P18.3: of grown queries, in pages of any length.
func TestPagesGrown(t *testing.T) {
	g := newGrower(6)
	rows, ordered, distinct, grouped := 0, 0, 0, 0
	for range 1500 {
		s, q := storeOf(t, g.triples(30)), g.query(t, 6, false)
		if _, e := engine.Run(engine.World{Base: s}, q); q.Ask || e != api.OK {
			continue
		}
		n := checkPages(t, s, q, one(g, 1, 2, 3, 1+g.r.IntN(20), 1024))
		rows += n
		if n > 1 {
			ordered += min(len(q.Order), 1)
		}
		if q.Distinct && n > 1 {
			distinct++
		}
		grouped += min(len(q.Group), 1)
	}
	if rows < 1000 || min(ordered, distinct, grouped) < 50 {
		t.Errorf("%d rows, %d in order, %d distinct, %d grouped", rows, ordered, distinct, grouped)
	}
}

// P18.3: of tables that are too long for one reply.
func TestPagesOfMore(t *testing.T) {
	s := storeOf(t, slices.Concat(counted("k", 2000), counted("n", 2096)))
	for _, text := range []string{"SELECT * WHERE { ?x ?p ?y . }", "SELECT DISTINCT ?x WHERE { ?x ?p ?y . } ORDER BY DESC ( ?x )", "SELECT ?y WHERE { ?x ?p ?y . } ORDER BY DESC ( ?y ) LIMIT 3000 OFFSET 7"} {
		q := parsed(t, text)
		replied(t, text, server.Answer(s, 0, q), failed(0, api.ErrLong))
		for _, page := range []int{499, 512} {
			if n := checkPages(t, s, q, page); n < 2000 {
				t.Errorf("%s: just %d rows", text, n)
			}
		}
	}
	q := parsed(t, "SELECT ?y WHERE { ?x ?p ?y . }") // short enough for pages of as many rows as may be
	checkPages(t, s, q, api.MaxPage)
	q.Limit = api.MaxPage + 1
	replied(t, "one more", server.Answer(s, 0, q), failed(0, api.ErrLong))
}
