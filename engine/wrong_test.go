package engine_test

import (
	"math"
	"slices"
	"strings"
	"testing"

	"legation/api"
	"legation/engine"
	"legation/store"
)

// refusedAll holds that a code is refused, and each query of it, before anything is reckoned.
func refusedAll(t *testing.T, c []api.Op, want api.Errno) {
	t.Helper()
	for _, w := range []engine.World{{}, someWorld(t)} {
		got, e := engine.Code(w, c)
		refused(t, c, got, e, want)
		for _, q := range []api.Query{{Ask: true, Limit: -1}, {Limit: -1}, {Vars: []string{"x"}, Limit: -1}, {Limit: -2}, {Vars: []string{"", "x"}, Grouped: true}} {
			q.Code = c
			got, e = engine.Run(w, q)
			refused(t, q, got, e, want)
		}
	}
}

// P14.1: a row of operations that is no code: what scope.Check says.
func TestWrongCodes(t *testing.T) {
	k, z, yes := basic(t, "?x k ?y"), given(t, "z|1"), by(t, api.OFilter, "TRUE")
	for _, c := range [][]api.Op{
		nil, {}, {{}}, {{Kind: 10}}, {{Kind: -1}}, {{Kind: math.MinInt}}, {k, {Kind: math.MaxInt}},
		{join}, {k, join}, {k, k}, {k, k, k, join}, {k, k, join, join}, {union, k}, {k, minus, k}, {left}, {k, left, k},
		{yes}, {extend(t, "x", "1")}, {service("e0")}, {silent("e9")}, {k, yes, yes, k},
		{k, service("e0"), service("e1")}, {k, silent("e9"), silent("e9")}, {k, service("e0"), yes, service("e0")}, {k, k, service("e0"), join, service("e1")}, {k, silent("e9"), k, minus, silent("e9")}, // one that another one needs
		{{Kind: api.OFilter}}, {k, {Kind: api.OFilter}}, {k, {Kind: api.OExtend, Name: "z"}}, {k, extend(t, "", "1")}, {k, extend(t, "1", "1")}, {k, {Kind: api.OFilter, Formula: parts(t, "1 + 1")[:2]}},
		{k, service("")}, {k, service("a b")}, {k, silent("é")}, {k, service(strings.Repeat("e", api.MaxText+1))},
		{{Kind: api.OBasic, Name: "x"}}, {{Kind: api.OBasic, Silent: true}}, {k, z, {Kind: api.OJoin, Formula: parts(t, "TRUE")}}, {k, {Kind: api.OService, Name: "e0", Formula: parts(t, "TRUE")}}, {{Kind: api.OTable, Triples: k.Triples}}, {{Kind: api.OBasic, Table: z.Table}},
		{{Kind: api.OBasic, Triples: slices.Repeat(k.Triples, 33)}}, {{Kind: api.OBasic, Triples: patterns(t, "?x k _:a")}}, {k, {Kind: api.OBasic, Triples: make([]api.Triple, 1)}, join},
		{given(t, "x|_:a")}, {{Kind: api.OTable, Table: api.Table{Vars: []string{"x", "x"}}}}, {{Kind: api.OTable, Table: api.Table{Vars: columns("v", 33)}}}, {{Kind: api.OTable, Table: api.Table{Rows: make([][]api.Term, api.MaxBatch+1)}}}, {{Kind: api.OTable, Table: api.Table{Vars: []string{"x"}, Rows: [][]api.Term{nil}}}}, {{Kind: api.OTable, Table: api.Table{Vars: []string{"x"}, Rows: [][]api.Term{{variable("x")}}}}},
	} {
		refusedAll(t, c, api.ErrForm)
		refusedAll(t, append([]api.Op{k, service("e9"), z, z, z}, c...), api.ErrForm) // ahead of a store that is not there
	}
	for _, c := range [][]api.Op{
		{k, extend(t, "x", "1")}, {k, extend(t, "z", "1"), extend(t, "z", "1")}, {k, service("e9"), extend(t, "y", "1")}, {k, silent("e9"), extend(t, "y", "1")}, {k, silent("e9"), z, join, extend(t, "x", "1")}, {z, k, by(t, api.OLeft, "FALSE"), extend(t, "x", "1")},
	} {
		refusedAll(t, c, api.ErrScope)
	}
	yesses := slices.Repeat([]api.Op{yes}, api.MaxOps)
	refusedAll(t, append([]api.Op{k}, yesses...), api.ErrLong)
	refusedAll(t, append([]api.Op{k, service("e9")}, yesses...), api.ErrLong)
	refusedAll(t, append([]api.Op{{}}, yesses...), api.ErrLong)
	refusedAll(t, make([]api.Op, 1<<16), api.ErrLong)
}

// P14.1: a query that is not right: what query.Check says, before anything is reckoned.
func TestWrongQueries(t *testing.T) {
	c := codeOf(t, "{ SERVICE <e9> { ?x <k> ?y . } }")
	long := codeOf(t, "{ ?a <k> ?x . ?b <k> ?y . }")
	count := func(over, name string) []api.Agg { return []api.Agg{{Kind: api.ACount, Over: over, Name: name}} }
	x := []string{"x"}
	for _, c := range [][]api.Op{c, long} {
		for _, q := range []api.Query{
			{Ask: true}, {Ask: true, Vars: x, Limit: -1}, {Ask: true, Distinct: true, Limit: -1}, {Ask: true, Grouped: true, Limit: -1}, {Ask: true, Group: x, Limit: -1}, {Ask: true, Order: []api.Key{{Name: "x"}}, Limit: -1}, {Ask: true, Aggs: count("", "n"), Limit: -1}, {Ask: true, Limit: 1}, {Ask: true, Limit: -1, Offset: 1},
			{Vars: x, Limit: -2}, {Vars: x, Limit: 1000000000}, {Vars: x, Offset: -1}, {Vars: x, Offset: 1000000000}, {Vars: x, Limit: math.MinInt, Offset: math.MaxInt},
			{Vars: []string{"x", "x"}}, {Vars: []string{""}}, {Vars: []string{"x", "?y"}}, {Vars: columns("v", 33)}, {Vars: x, Grouped: true}, {Vars: x, Group: x}, {Vars: x, Group: []string{"x", "x"}, Grouped: true}, {Vars: x, Order: make([]api.Key, 33)}, {Vars: x, Order: []api.Key{{}}},
			{Vars: []string{"n"}, Aggs: count("", "n")}, {Vars: []string{"n"}, Aggs: []api.Agg{{Kind: 5, Over: "x", Name: "n"}}, Grouped: true}, {Vars: []string{"n"}, Aggs: []api.Agg{{Kind: api.ASum, Name: "n"}}, Grouped: true}, {Vars: []string{"n"}, Aggs: slices.Repeat(count("", "n"), 2), Grouped: true}, {Vars: columns("n", 9), Aggs: slices.Repeat(count("", "n"), 9), Grouped: true},
		} {
			q.Code = c
			got, e := engine.Run(someWorld(t), q)
			refused(t, q, got, e, api.ErrForm)
		}
		for _, q := range []api.Query{
			{}, {Vars: []string{"z"}}, {Vars: []string{"x", "z"}}, {Vars: []string{"y"}, Group: x, Grouped: true}, {Vars: x, Group: []string{"z", "x"}, Grouped: true}, {Vars: x, Order: []api.Key{{Name: "y"}}}, {Vars: x, Order: []api.Key{{Name: "z"}}},
			{Vars: x, Aggs: count("", "n"), Group: x, Grouped: true}, {Vars: x, Aggs: count("y", "x"), Grouped: true}, {Vars: []string{"n"}, Aggs: count("z", "n"), Grouped: true}, {Vars: []string{"n", "x"}, Aggs: count("x", "n"), Grouped: true},
		} {
			q.Code = c
			got, e := engine.Run(someWorld(t), q)
			refused(t, q, got, e, api.ErrScope)
		}
	}
	got, e := engine.Run(engine.World{}, api.Query{})
	refused(t, "no query", got, e, api.ErrForm)
	_, e = engine.Run(someWorld(t), api.Query{Vars: x, Limit: -1, Code: c})
	if e != api.ErrNone {
		t.Errorf("%d", e)
	}
}

// checkError holds that a code, and a query of it, come to an error and nothing else.
func checkError(t *testing.T, w engine.World, c []api.Op, want api.Errno) {
	t.Helper()
	got, e := engine.Code(w, c)
	refused(t, c, got, e, want)
	got, e = engine.Run(w, api.Query{Ask: true, Limit: -1, Code: c})
	refused(t, c, got, e, want)
	x, _ := planted(c)
	got, e = engine.Run(w, api.Query{Vars: x.names(), Distinct: true, Limit: 0, Code: c})
	refused(t, c, got, e, want)
	if _, e := plainCode(w, c); e != want {
		t.Fatalf("%s: %d; not %d", brief(c), e, want)
	}
}

// fullWorld has a base and a store e0 in which two patterns without a shared variable make more rows than may be, and a store e1 that is almost empty.
func fullWorld(t *testing.T) engine.World {
	t.Helper()
	full := storeOf(t, counted("k", 65))
	return engine.World{Base: full, Names: []string{"e0", "e1"}, Stores: []*store.Store{full, stored(t, "a k b")}}
}

// P14.1: an error in what a service needs: of one that is Silent one row that binds nothing, of another one that error.
func TestErrorsInServices(t *testing.T) {
	w := fullWorld(t)
	k, other, long := basic(t, "?x k ?y"), basic(t, "?u k ?v"), basic(t, "?x k ?y|?u k ?v")
	for _, needed := range [][]api.Op{{long}, {k, other, join}, {k, other, left}, {other, k, join, by(t, api.OFilter, "FALSE")}, {k, given(t, "z"), k, other, join, left, minus}, {long, extend(t, "z", "1")}} {
		checkError(t, w, needed, api.ErrLong)
		checkError(t, w, append(slices.Clone(needed), service("e0")), api.ErrLong)
		checkError(t, w, append(slices.Clone(needed), service("e9")), api.ErrNone) // what it needs is nowhere reckoned
		checkError(t, w, append(append([]api.Op{given(t, "z|1")}, needed...), service("e0"), union), api.ErrLong)
		for _, name := range []string{"e0", "e9"} {
			checkCode(t, w, append(slices.Clone(needed), silent(name)), "|")
			checkCode(t, w, append(append([]api.Op{given(t, "w|1")}, needed...), silent(name), join), "w|1")
			checkCode(t, w, append(slices.Clone(needed), silent(name), given(t, "w|1"), left), "w|1")
		}
	}
	checkCode(t, w, []api.Op{k, other, join, service("e1")}, "x y u v|a b a b")
	checkCode(t, w, []api.Op{k, other, join, silent("e1")}, "x y u v|a b a b")
	checkError(t, w, []api.Op{k, silent("e0"), other, silent("e0"), join}, api.ErrLong) // an OJoin behind Silent ones is none of theirs
	checkError(t, w, []api.Op{k, silent("e1"), long, union}, api.ErrLong)
}

// P14.1: of several errors the one of the operation that stands first.
func TestFirstError(t *testing.T) {
	w := fullWorld(t)
	k, long, z := basic(t, "?x k ?y"), basic(t, "?x k ?y|?u k ?v"), given(t, "z|1")
	for _, c := range [][]api.Op{
		{long, k, service("e9"), join}, {z, long, k, service("e9"), join, join}, {long, service("e0"), k, service("e9"), union}, {z, silent("e9"), long, service("e0"), k, service("e9"), union, union}, {k, silent("e0"), long, k, service("e9"), minus, left}, {k, basic(t, "?u k ?v"), join, k, service("e9"), minus},
	} {
		checkError(t, w, c, api.ErrLong)
	}
	for _, c := range [][]api.Op{
		{k, service("e9"), long, join}, {z, k, service("e9"), long, join, join}, {k, service("e9"), long, service("e0"), union}, {long, silent("e0"), k, service("e9"), long, union, union}, {k, k, service("e9"), long, minus, left}, {k, service("e9"), k, basic(t, "?u k ?v"), join, minus}, {long, service("e9"), long, minus},
	} {
		checkError(t, w, c, api.ErrNone)
	}
}
