package engine_test

import (
	"slices"
	"strconv"
	"testing"

	"legation/api"
	"legation/engine"
)

// sized tells an operation that comes to a table of n rows, and the store to reckon it in.
func sized(t *testing.T, begin string, n int) (api.Op, engine.World) {
	t.Helper()
	l := []api.Triple{{S: variable(begin + "x"), P: iri("k"), O: variable(begin + "y")}}
	return api.Op{Kind: api.OBasic, Triples: l}, engine.World{Base: storeOf(t, counted("k", n))}
}

// checkRows holds that so many rows are told, if they are not too many.
func checkRows(t *testing.T, what any, n int, got api.Table, e api.Errno) {
	t.Helper()
	if n > api.MaxRows {
		refused(t, what, got, e, api.ErrLong)
	} else if e != api.OK || len(got.Rows) != n {
		t.Fatalf("%s: %d rows, %d; not %d", brief(what), len(got.Rows), e, n)
	}
}

// P14.1: MaxRows rows, and one more, of an OBasic.
func TestMostRowsOfBasic(t *testing.T) {
	full := storeOf(t, counted("k", api.MaxTriples))
	for s, n := range map[string]int{"?x ?p ?y": api.MaxRows, "?x k ?y|?x ?p ?y": api.MaxRows, "?x k ?y|s7 k ?z": api.MaxRows, "s7 k ?z|s8 k ?u": 1, "?x k ?y|?z k 7|?x q ?z": 0} {
		got, e := engine.Basic(full, patterns(t, s))
		checkRows(t, s, n, got, e)
	}
	for _, n := range [][2]int{{64, 64}, {63, 65}, {65, 63}, {64, 65}, {65, 64}, {1, 4095}, {2, 2048}, {2, 2049}, {17, 241}, {241, 17}} {
		s := storeOf(t, slices.Concat(counted("k", n[0]), counted("n", n[1])))
		got, e := engine.Basic(s, patterns(t, "?x k ?y|?u n ?v"))
		checkRows(t, n, n[0]*n[1], got, e)
		c := []api.Op{basic(t, "?x k ?y|?u n ?v")}
		got, e = engine.Code(engine.World{Base: s}, c)
		checkRows(t, n, n[0]*n[1], got, e)
		got, e = engine.Run(engine.World{Base: s}, api.Query{Vars: []string{"x", "v"}, Limit: -1, Code: c})
		checkRows(t, n, n[0]*n[1], got, e)
	}
}

// P14.1: the first error of a join is told, whatever comes behind it; a pattern without rows ahead keeps the others from it.
func TestBasicOnItsWay(t *testing.T) {
	s := storeOf(t, slices.Concat(counted("k", 65), counted("n", 65)))
	for _, l := range []string{"?x k ?y|?u n ?v", "?x k ?y|?u n ?v|?x n ?u", "?x k ?y|?u n ?v|?x q ?y", "?x k ?y|?u n ?v|?x n ?v|?x k 1", "?x k ?y|?u k ?v|a k b"} {
		got, e := engine.Basic(s, patterns(t, l))
		refused(t, l, got, e, api.ErrLong)
	}
	for l, n := range map[string]int{"?x k ?y|?x n ?u|?u n ?v": 0, "?x k ?y|?x n ?y|?u n 1": 65, "?x q ?y|?x k ?z|?u n ?v": 0, "a k b|?x k ?y|?u n ?v": 0, "?x k 1|?u n ?v|?x n ?y": 65} {
		got, e := engine.Basic(s, patterns(t, l))
		checkRows(t, l, n, got, e)
	}
}

// P14.1: MaxRows rows, and one more, of other operations.
func TestMostRowsOfCode(t *testing.T) {
	const half = api.MaxRows / 2
	for _, n := range []int{half - 1, half, half + 1} {
		o, w := sized(t, "", n)
		p, _ := sized(t, "a", n)
		q, _ := sized(t, "b", n)
		two := given(t, "z|1|2")
		for _, c := range [][]api.Op{{o, p, union}, {o, two, join}, {two, o, join}, {o, two, left}, {o, o, union, by(t, api.OFilter, "BOUND(?x)")}, {o, o, union, extend(t, "z", "1")}} {
			got, e := engine.Code(w, c)
			checkRows(t, c, 2*n, got, e)
		}
		for _, c := range [][]api.Op{{o, o, union, p, minus}, {o, two, join, by(t, api.OFilter, "FALSE"), q, union}} {
			got, e := engine.Code(w, c)
			switch {
			case n > half:
				refused(t, c, got, e, api.ErrLong)
			case c[1].Kind == api.OTable:
				checkRows(t, c, n, got, e)
			default:
				checkRows(t, c, 2*n, got, e)
			}
		}
	}
}

// P14.1: MaxRows rows on their way into a query's form.
func TestMostRowsOfQuery(t *testing.T) {
	o, w := sized(t, "", api.MaxRows)
	q := api.Query{Vars: []string{"y", "x"}, Order: []api.Key{{Name: "y", Desc: true}}, Distinct: true, Limit: 2, Offset: api.MaxRows - 2, Code: []api.Op{o}}
	got, e := engine.Run(w, q)
	check(t, q, got, e, of(t, "y x|1 s1|0 s0"))
	q = parsed(t, "SELECT ( COUNT ( * ) AS ?c ) ( MAX ( ?y ) AS ?m ) WHERE { ?x <k> ?y . }")
	got, e = engine.Run(w, q)
	check(t, q, got, e, of(t, "c m|4096 4095"))
	q = api.Query{Vars: []string{"x"}, Limit: -1, Code: []api.Op{o, o, union}}
	got, e = engine.Run(w, q)
	refused(t, q, got, e, api.ErrLong)
}

// P14.1: MaxVars variables, and one more, of an OBasic, whether there are rows or not.
func TestMostVariablesOfBasic(t *testing.T) {
	for n := range 40 {
		for _, triples := range []string{"", "a k b", "b k a"} {
			s := stored(t, triples)
			want, wanted := plainBasic(s, wide(n))
			got, e := engine.Basic(s, wide(n))
			told(t, n, got, e, want.table(), wanted)
			if (e == api.OK) != (n <= api.MaxVars) {
				t.Fatalf("%d: %d", n, e)
			}
			got, e = engine.Code(engine.World{Base: s}, []api.Op{{Kind: api.OBasic, Triples: wide(n)}})
			told(t, n, got, e, want.table(), wanted)
		}
	}
}

// P14.1: a Basic may have more patterns than an OBasic.
func TestManyPatterns(t *testing.T) {
	s := stored(t, "a k b|b k c")
	l := slices.Repeat(patterns(t, "?x k ?y"), 1000)
	got, e := engine.Basic(s, l)
	check(t, "1000 patterns", got, e, of(t, "x y|a b|b c"))
	got, e = engine.Code(engine.World{Base: s}, []api.Op{{Kind: api.OBasic, Triples: l[:32]}})
	check(t, "32 patterns", got, e, of(t, "x y|a b|b c"))
	got, e = engine.Code(engine.World{Base: s}, []api.Op{{Kind: api.OBasic, Triples: l[:33]}})
	refused(t, "33 patterns", got, e, api.ErrForm)
}

// P14.1: MaxVars variables, and one more, of other operations.
func TestMostVariablesOfCode(t *testing.T) {
	w := worldOf(t, "a k b")
	most := api.Op{Kind: api.OTable, Table: api.Table{Vars: columns("v", api.MaxVars)}}
	for _, c := range [][]api.Op{{most}, {most, most, join}, {most, given(t, "v0|1"), union}, {given(t, "v31"), most, left}, {most, basic(t, "?x k ?y"), minus}, {most, by(t, api.OFilter, "?x")}, {most, basic(t, "?x k ?y"), by(t, api.OFilter, "FALSE"), silent("e9"), join}} {
		got, e := engine.Code(w, c)
		if e != api.OK || len(got.Vars) != api.MaxVars {
			t.Fatalf("%s: %s, %d", brief(c), written(got), e)
		}
	}
	x := given(t, "x|1")
	for _, c := range [][]api.Op{{most, x, join}, {x, most, union}, {most, x, left}, {most, x, by(t, api.OLeft, "FALSE")}, {most, extend(t, "x", "1")}, {most, basic(t, "?x q ?y"), join}, {x, most, minus, most, union}} {
		got, e := engine.Code(w, c)
		refused(t, c, got, e, api.ErrLong)
	}
}

// P14.1: more than MaxVars variables in scope, of which a Silent service that came to nothing brings none: just what is Grouped asks for all of them.
func TestMoreInScope(t *testing.T) {
	w := worldOf(t, "a k b", "e0", "a k b")
	some := given(t, "x|1")
	most := api.Op{Kind: api.OTable, Table: api.Table{Vars: columns("v", api.MaxVars)}}
	c := []api.Op{some, most, silent("e9"), join}
	q := api.Query{Vars: []string{"v7", "x"}, Limit: -1, Code: c}
	got, e := engine.Run(w, q)
	check(t, q, got, e, of(t, "v7 x|- 1"))
	got, e = engine.Run(w, api.Query{Ask: true, Limit: -1, Code: c})
	check(t, c, got, e, of(t, "|"))
	q.Group, q.Grouped = q.Vars, true
	got, e = engine.Run(w, q)
	refused(t, q, got, e, api.ErrLong)
	q.Code = []api.Op{some, most, service("e9"), join}
	got, e = engine.Run(w, q)
	refused(t, q, got, e, api.ErrNone)
	q.Code = []api.Op{given(t, "v7 x|1 2"), {Kind: api.OTable, Table: api.Table{Vars: columns("v", api.MaxVars-1)}}, silent("e9"), join}
	got, e = engine.Run(w, q)
	check(t, q, got, e, of(t, "v7 x|1 2"))
}

// P14.1: columns of groups and aggregates that are MaxVars together, and one more.
func TestMostColumnsOfGroups(t *testing.T) {
	names := columns("v", api.MaxVars)
	q := api.Query{Limit: -1, Grouped: true, Code: []api.Op{{Kind: api.OTable, Table: api.Table{Vars: names, Rows: [][]api.Term{make([]api.Term, api.MaxVars)}}}}}
	for i := range 8 {
		q.Aggs = append(q.Aggs, api.Agg{Kind: api.ACount, Name: "n" + strconv.Itoa(i)})
		q.Vars = append(q.Vars, "n"+strconv.Itoa(i))
	}
	for n := range api.MaxVars + 1 {
		q.Group = names[:n]
		got, e := engine.Run(engine.World{}, q)
		if n+8 > api.MaxVars {
			refused(t, q, got, e, api.ErrLong)
		} else {
			check(t, q, got, e, of(t, "n0 n1 n2 n3 n4 n5 n6 n7|1 1 1 1 1 1 1 1"))
		}
	}
}

// P14.1: MaxOps operations, one behind the other, and beside one another; as many services as there may be.
func TestMostOperations(t *testing.T) {
	w := worldOf(t, "a k b", "e0", "c k d")
	k := basic(t, "?x k ?y")
	filters := append([]api.Op{k}, slices.Repeat([]api.Op{by(t, api.OFilter, "TRUE")}, api.MaxOps-1)...)
	checkCode(t, w, filters, "x y|a b")
	row := append(slices.Repeat([]api.Op{k}, api.MaxOps/2), slices.Repeat([]api.Op{join}, api.MaxOps/2-1)...)
	checkCode(t, w, row, "x y|a b")
	checkCode(t, w, append(row, service("e0")), "x y|c d")
	chain := []api.Op{k, by(t, api.OFilter, "TRUE")}
	for len(chain) < api.MaxOps {
		chain = append(chain, k, union)
	}
	got, e := engine.Code(w, chain)
	checkRows(t, "a chain", api.MaxOps/2, got, e)
	services := []api.Op{k, service("e0")}
	for len(services)+3 <= api.MaxOps {
		services = append(services, k, anotherService(len(services)), union)
	}
	got, e = engine.Code(w, services)
	checkRows(t, "services", 43, got, e)
	if len(services) != api.MaxOps || got.Rows[0][0] != iri("c") || got.Rows[1][0].Kind != api.None {
		t.Errorf("%d operations, %s", len(services), written(got))
	}
	extends := []api.Op{basic(t, "")}
	for _, name := range columns("v", api.MaxVars+1) {
		extends = append(extends, extend(t, name, "1"))
	}
	got, e = engine.Code(w, extends[:api.MaxVars+1])
	checkRows(t, "variables", 1, got, e)
	got, e = engine.Code(w, extends)
	refused(t, "one variable more", got, e, api.ErrLong)
}

// anotherService tells one that is there, or a silent one that is not.
func anotherService(n int) api.Op {
	if n%2 == 0 {
		return silent("e9")
	}
	return service("e0")
}
