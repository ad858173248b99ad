package result_test

import (
	"fmt"
	"strings"
	"testing"

	"legation/api"
	"legation/result"
)

// telling are bytes that matter most here.
const telling = "\n\t?<>\"\\@^_: 0a19rowserror-+\x00\r\x7f\xff"

// brief tells what a failure's line has room for.
func brief(x any) string { return fmt.Sprintf("%.400q", fmt.Sprintf("%+v", x)) }

// same tells whether two replies are alike, lists without elements being nil's like.
func same(a, b api.Reply) bool {
	whole := func(r api.Reply) string { return strings.ReplaceAll(fmt.Sprintf("%#v", r), "(nil)", "{}") }
	return whole(a) == whole(b)
}

func iri(s string) api.Term          { return api.Term{Kind: api.Iri, Text: s} }
func blank(s string) api.Term        { return api.Term{Kind: api.Blank, Text: s} }
func variable(s string) api.Term     { return api.Term{Kind: api.Var, Text: s} }
func literal(s string) api.Term      { return api.Term{Kind: api.Literal, Text: s} }
func typed(s, t string) api.Term     { return api.Term{Kind: api.Literal, Text: s, Type: t} }
func tagged(s, lang string) api.Term { return api.Term{Kind: api.Literal, Text: s, Lang: lang} }

// tabled is a reply of RTable.
func tabled(id int, vars string, rows ...[]api.Term) api.Reply {
	return api.Reply{Id: id, Kind: api.RTable, Table: api.Table{Vars: strings.Fields(vars), Rows: rows}}
}

func truth(id int, is bool) api.Reply { return api.Reply{Id: id, Kind: api.RTruth, Truth: is} }

func failed(id int, e api.Errno) api.Reply { return api.Reply{Id: id, Kind: api.RError, Err: e} }

func row(l ...api.Term) []api.Term { return l }

// column tells as many rows of one term each.
func column(n int, x api.Term) [][]api.Term {
	l := make([][]api.Term, n)
	for i := range l {
		l[i] = row(x)
	}
	return l
}

// puts holds that r is right, that its bytes are b, and that b is read as r.
func puts(t *testing.T, r api.Reply, b string) {
	t.Helper()
	if e := result.Check(r); e != api.OK {
		t.Fatalf("Check of %s: %d", brief(r), e)
	}
	if s, e := result.Put(r); s != b || e != api.OK {
		t.Fatalf("Put of %s: %s, %d; not %s", brief(r), brief(s), e, brief(b))
	}
	x, e := result.Get(b)
	if !same(x, r) || e != api.OK {
		t.Fatalf("Get of %s: %s, %d; not %s", brief(b), brief(x), e, brief(r))
	}
	if !result.Same(x, r) || !result.Same(r, x) {
		t.Fatalf("%s is not the same as itself", brief(r))
	}
}

// unput holds that r is refused.
func unput(t *testing.T, r api.Reply, want api.Errno) {
	t.Helper()
	if e := result.Check(r); e != want {
		t.Fatalf("Check of %s: %d; not %d", brief(r), e, want)
	}
	if s, e := result.Put(r); s != "" || e != want {
		t.Fatalf("Put of %s: %s, %d; not %d", brief(r), brief(s), e, want)
	}
}

// ungot holds that b is refused, and that nothing is told beside the error.
func ungot(t *testing.T, b string, want api.Errno) {
	t.Helper()
	if x, e := result.Get(b); !same(x, api.Reply{}) || e != want {
		t.Fatalf("Get of %s: %s, %d; not %d", brief(b), brief(x), e, want)
	}
}

// numbers are Ids at their bounds and beyond.
func numbers() []int {
	return []int{-1 << 63, -1 << 32, -4096, -10, -1, 0, 1, 9, 10, 11, 99, 100, 101, 999, 1000, 1001, 4094, 4095, 4096, 4097, 9999, 10000, 40950, 1 << 16, 1 << 32, 1<<32 + 7, 1<<63 - 1}
}

func isId(n int) bool { return 0 <= n && n <= 4095 }
