package request_test

import (
	"fmt"
	"slices"
	"strings"
	"testing"

	"legation/api"
	"legation/query"
	"legation/request"
)

// telling are bytes that matter most here.
const telling = "=&%+ aF29f-~/?#\x00\xff"

// brief tells what a failure's line has room for.
func brief(x any) string { return fmt.Sprintf("%.400q", fmt.Sprintf("%+v", x)) }

// same tells whether two queries are alike, lists without elements being nil's like.
func same(a, b api.Query) bool {
	whole := func(q api.Query) string { return strings.ReplaceAll(fmt.Sprintf("%#v", q), "(nil)", "{}") }
	return whole(a) == whole(b)
}

// puts holds that r is right, that its bytes are b, and that b is read as r.
func puts(t *testing.T, r api.Request, b string) {
	t.Helper()
	if e := request.Check(r); e != api.OK {
		t.Fatalf("Check of %s: %d", brief(r), e)
	}
	if s, e := request.Put(r); s != b || e != api.OK {
		t.Fatalf("Put of %s: %s, %d; not %s", brief(r), brief(s), e, brief(b))
	}
	if x, e := request.Get(b); x != r || e != api.OK {
		t.Fatalf("Get of %s: %s, %d; not %s", brief(b), brief(x), e, brief(r))
	}
}

// unput holds that r is refused.
func unput(t *testing.T, r api.Request, want api.Errno) {
	t.Helper()
	if e := request.Check(r); e != want {
		t.Fatalf("Check of %s: %d; not %d", brief(r), e, want)
	}
	if s, e := request.Put(r); s != "" || e != want {
		t.Fatalf("Put of %s: %s, %d; not %d", brief(r), brief(s), e, want)
	}
}

// ungot holds that b are no request's bytes, to Asked, too.
func ungot(t *testing.T, b string) {
	t.Helper()
	if x, e := request.Get(b); x != (api.Request{}) || e != api.ErrForm {
		t.Fatalf("Get of %s: %s, %d", brief(b), brief(x), e)
	}
	if id, q, e := request.Asked(b); id != 0 || !same(q, api.Query{}) || e != api.ErrForm {
		t.Fatalf("Asked of %s: %d, %s, %d", brief(b), id, brief(q), e)
	}
}

// asks holds that to ask q is told by b, and that b are told to be asking q.
func asks(t *testing.T, id int, q api.Query, b string) {
	t.Helper()
	if s, e := request.Ask(id, q); s != b || e != api.OK {
		t.Fatalf("Ask of %d, %s: %s, %d; not %s", id, brief(q), brief(s), e, brief(b))
	}
	asked(t, b, id, q)
}

func asked(t *testing.T, b string, id int, q api.Query) {
	t.Helper()
	if n, x, e := request.Asked(b); n != id || !same(x, q) || e != api.OK {
		t.Fatalf("Asked of %s: %d, %s, %d; not %d, %s", brief(b), n, brief(x), e, id, brief(q))
	}
}

// unasked holds that q is not asked.
func unasked(t *testing.T, id int, q api.Query, want api.Errno) {
	t.Helper()
	if s, e := request.Ask(id, q); s != "" || e != want {
		t.Fatalf("Ask of %d, %s: %s, %d; not %d", id, brief(q), brief(s), e, want)
	}
}

func parsed(t *testing.T, s string) api.Query {
	t.Helper()
	q, e := query.Parse(s)
	if e != api.OK {
		t.Fatalf("%s: %d", brief(s), e)
	}
	return q
}

// sized tells a query whose text has n bytes.
func sized(n int) api.Query {
	text := strings.Repeat("o", n-len(`ASK { ?x <a> "" . }`))
	return api.Query{Ask: true, Limit: -1, Code: []api.Op{{Kind: api.OBasic, Triples: []api.Triple{{S: api.Term{Kind: api.Var, Text: "x"}, P: api.Term{Kind: api.Iri, Text: "a"}, O: api.Term{Kind: api.Literal, Text: text}}}}}}
}

// numbers are Ids at their bounds and beyond.
func numbers() []int {
	return []int{-1 << 63, -1 << 32, -4096, -10, -1, 0, 1, 9, 10, 11, 99, 100, 101, 999, 1000, 1001, 4094, 4095, 4096, 4097, 9999, 10000, 40950, 1 << 16, 1 << 32, 1<<32 + 7, 1<<63 - 1}
}

func isId(n int) bool { return slices.Contains(numbers(), n) && 0 <= n && n <= 4095 }
