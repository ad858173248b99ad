package query_test

import (
	"fmt"
	"math"
	"math/rand/v2"
	"slices"
	"testing"

	"legation/api"
	"legation/query"
)

// codeOfXYZ tells a code with x, y and z in scope.
func codeOfXYZ() []api.Op {
	v := func(s string) api.Term { return api.Term{Kind: api.Var, Text: s} }
	return []api.Op{{Kind: api.OBasic, Triples: []api.Triple{{S: v("x"), P: v("y"), O: v("z")}}}}
}

func asked() api.Query {
	return api.Query{Ask: true, Limit: -1, Code: codeOfXYZ()}
}

func selected() api.Query {
	return api.Query{Vars: []string{"x", "z"}, Order: []api.Key{{Name: "z"}, {Name: "x", Desc: true}}, Limit: -1, Code: codeOfXYZ()}
}

func grouped() api.Query {
	return api.Query{Vars: []string{"n", "x", "m", "z"}, Aggs: []api.Agg{{Kind: api.ACount, Name: "n"}, {Kind: api.ASum, Over: "y", Name: "m"}}, Grouped: true, Group: []string{"z", "x"}, Order: []api.Key{{Name: "m"}}, Limit: -1, Code: codeOfXYZ()}
}

// nothing tells a query with nothing in scope.
func nothing() api.Query {
	return api.Query{Limit: -1, Code: []api.Op{{Kind: api.OBasic}}}
}

// change is something done to a query.
type change = func(q *api.Query)

// checkChanges holds what Check says of a query with something done to it.
func checkChanges(t *testing.T, made func() api.Query, want api.Errno, changes ...change) {
	t.Helper()
	for i, c := range changes {
		q := made()
		c(&q)
		if e := query.Check(q); e != want {
			t.Errorf("change %d: %s: %d; not %d", i, brief(q), e, want)
		}
		if errs := plainCheck(q); !slices.Contains(errs, want) {
			t.Errorf("change %d: %s: the rules say %d", i, brief(q), errs)
		}
	}
}

func vars(l ...string) change   { return func(q *api.Query) { q.Vars = l } }
func group(l ...string) change  { return func(q *api.Query) { q.Group = l } }
func aggs(l ...api.Agg) change  { return func(q *api.Query) { q.Aggs = l } }
func order(l ...api.Key) change { return func(q *api.Query) { q.Order = l } }
func code(l ...api.Op) change   { return func(q *api.Query) { q.Code = l } }
func limit(n int) change        { return func(q *api.Query) { q.Limit = n } }
func offset(n int) change       { return func(q *api.Query) { q.Offset = n } }
func is(grouped bool) change    { return func(q *api.Query) { q.Grouped = grouped } }
func asItIs(*api.Query)         {}
func distinct(q *api.Query)     { q.Distinct = true }

// all does several things.
func all(l ...change) change {
	return func(q *api.Query) {
		for _, c := range l {
			c(q)
		}
	}
}

// P8.1: what a query that asks may have.
func TestCheckOfAsking(t *testing.T) {
	checkChanges(t, asked, api.OK, asItIs, code(api.Op{Kind: api.OBasic}), all(vars([]string{}...), aggs([]api.Agg{}...), group([]string{}...), order([]api.Key{}...)))
	checkChanges(t, asked, api.ErrForm, distinct, vars("x"), vars("x", "y", "z"), vars(""), aggs(api.Agg{}), aggs(api.Agg{Kind: api.ACount, Name: "n"}), is(true), group("x"), all(group("x"), is(true)), order(api.Key{Name: "x"}), order(api.Key{}),
		limit(0), limit(1), limit(-2), limit(999999999), limit(math.MinInt), limit(math.MaxInt), offset(1), offset(-1), offset(999999999), offset(math.MinInt), offset(math.MaxInt))
	checkChanges(t, selected, api.ErrForm, func(q *api.Query) { q.Ask = true }, all(vars(), func(q *api.Query) { q.Ask = true }), all(order(), func(q *api.Query) { q.Ask = true }))
	checkChanges(t, nothing, api.OK, func(q *api.Query) { q.Ask = true })
}

// P8.1: Limit and Offset, in their bounds and out of them.
func TestCheckOfCounts(t *testing.T) {
	for _, made := range []func() api.Query{selected, grouped, nothing} {
		checkChanges(t, made, api.OK, asItIs, distinct, limit(-1), limit(0), limit(1), limit(999999999), offset(0), offset(1), offset(999999999), all(limit(0), offset(999999999)))
		checkChanges(t, made, api.ErrForm, limit(-2), limit(1000000000), limit(math.MinInt), limit(math.MaxInt), limit(1<<32), limit(-1<<32), offset(-1), offset(1000000000), offset(math.MinInt), offset(math.MaxInt), offset(1<<32), all(limit(7), offset(-1)), all(limit(-2), offset(3)))
	}
}

// P8.1: columns.
func TestCheckOfColumns(t *testing.T) {
	x := order()
	checkChanges(t, selected, api.OK, all(x, vars("x")), all(x, vars("z", "y", "x")), all(x, vars("y")))
	checkChanges(t, selected, api.ErrForm, vars("x", "z", "x"), vars("x", "x"), vars("x", "z", ""), vars("x", "9"), vars("x y", "z"), vars("?x", "z"), vars("x", "z", "_"), vars("q", "q"), vars("x", "z", "é"), vars("x", "z", "a23456789012345678901234567890123"))
	checkChanges(t, selected, api.ErrScope, all(x, vars("w")), vars("x", "z", "w"), vars("X", "x", "z"), vars("x", "z", "xx"), all(x, vars()), all(x, vars("x", "z", "a2345678901234567890123456789012")), vars())
	checkChanges(t, nothing, api.ErrScope, vars("x"), order(api.Key{Name: "x"}))
	checkChanges(t, grouped, api.ErrScope, vars("n", "x", "m", "z", "y"), vars("n", "y", "m"), vars("n", "m", "w"), all(group(), vars("n", "m", "x")))
	checkChanges(t, grouped, api.OK, vars("n", "m"), vars("z", "n", "m"), vars("n", "m", "x"), all(group(), vars("n", "m")), all(aggs(), vars("x"), x), all(aggs(), vars("z", "x"), x))
	checkChanges(t, nothing, api.OK, asItIs, all(code(api.Op{Kind: api.OTable}), distinct))
	checkChanges(t, nothing, api.ErrScope, code(codeOfXYZ()...), code(api.Op{Kind: api.OTable, Table: api.Table{Vars: []string{"x"}}}))
}

// P8.1: Grouped, as it must be and as it must not.
func TestCheckOfGrouped(t *testing.T) {
	checkChanges(t, selected, api.ErrForm, is(true), group("x", "z"), aggs(api.Agg{Kind: api.ACount, Name: "x"}))
	checkChanges(t, grouped, api.ErrForm, is(false), all(is(false), aggs(), vars("x", "z"), order()), all(is(false), group(), vars("n", "m")), all(aggs(), group(), vars("x"), order()), all(aggs(), group(), vars("x", "w"), order()))
	checkChanges(t, nothing, api.ErrForm, is(true), group("x"))
	checkChanges(t, grouped, api.OK, all(aggs(), group("x", "y", "z"), vars("y"), order(api.Key{Name: "y"})), all(group(), vars("n", "m")))
	checkChanges(t, grouped, api.ErrScope, all(aggs(), order()), all(vars("n", "m", "x"), group("y")))
}

// P8.1: names to group by.
func TestCheckOfGroup(t *testing.T) {
	checkChanges(t, grouped, api.OK, group("x", "z"), group("x", "y", "z"))
	checkChanges(t, grouped, api.ErrForm, group("x", "z", "x"), group("x", "z", ""), group("x", "z", "1"), group("x", "z", "w", "w"), group("x", "z", "n", "n"), group("x", "z", "x "))
	checkChanges(t, grouped, api.ErrScope, group("x", "z", "w"), group("x", "z", "n"), group("x"), group("z"), group("y"), group("x", "Z"), group())
}

// P8.1: aggregates.
func TestCheckOfAggregates(t *testing.T) {
	of := func(kind int, over, name string) api.Agg { return api.Agg{Kind: kind, Over: over, Name: name} }
	n := of(api.ACount, "", "n")
	for kind := api.ACount; kind <= api.AMax; kind++ {
		checkChanges(t, grouped, api.OK, aggs(n, of(kind, "x", "m")), aggs(n, of(kind, "z", "m")), aggs(of(kind, "y", "n"), of(kind, "y", "m")))
		checkChanges(t, grouped, api.ErrScope, aggs(n, of(kind, "w", "m")), aggs(n, of(kind, "n", "m")), aggs(n, of(kind, "m", "m")), aggs(of(kind, "x", "m"), n), aggs(n, of(kind, "x", "w")), aggs(n, of(kind, "y", "x")), aggs(n, of(kind, "Y", "m")),
			aggs(n, of(kind, "x", "m"), of(kind, "x", "w")), aggs(of(kind, "x", "m")), aggs(n), all(aggs(n, of(kind, "y", "y")), vars("n", "y"), order()), all(aggs(of(kind, "y", "z")), vars("z"), order()))
		checkChanges(t, grouped, api.ErrForm, aggs(n, of(kind, "x", "m"), of(kind, "x", "m")), aggs(n, of(kind, "x", "n")), all(aggs(n, of(kind, "x", "n")), vars("n", "x"), order()))
	}
	for _, kind := range []int{0, -1, 5, 6, math.MinInt, math.MaxInt, 1<<32 + 1} {
		checkChanges(t, grouped, api.ErrForm, aggs(n, of(kind, "x", "m")), aggs(n, of(kind, "", "m")), aggs(n, of(kind, "w", "q")), aggs(of(kind, "w", "x"), n))
	}
	checkChanges(t, grouped, api.OK, aggs(n, of(api.ACount, "", "m")), all(aggs(n), vars("n"), order()), all(aggs(n), vars("x", "n"), order()))
	checkChanges(t, grouped, api.ErrScope, vars("m", "n"), vars("m", "x", "n"), vars("x", "m"), vars("x", "n"), all(vars("x", "z"), order()), aggs(n, of(api.ACount, "w", "m")))
}

// P8.1: keys.
func TestCheckOfKeys(t *testing.T) {
	k := func(s string) api.Key { return api.Key{Name: s} }
	checkChanges(t, selected, api.OK, order(), order(k("x")), order(k("z"), k("z"), api.Key{Name: "z", Desc: true}))
	checkChanges(t, selected, api.ErrScope, order(k("y")), order(k("x"), k("w")), order(api.Key{Name: "X", Desc: true}))
	checkChanges(t, grouped, api.OK, order(k("n"), k("x")), order(api.Key{Name: "m", Desc: true}, k("z")))
	checkChanges(t, grouped, api.ErrScope, order(k("y")), order(k("n"), k("w")), all(vars("n", "m"), order(k("x"))))
}

// P8.1: a name of a key or an aggregate that is none is ErrForm's, whatever else is wrong; just of COUNT Over may be empty.
func TestCheckOfOddNames(t *testing.T) {
	bare := all(vars("n", "m"), order(), group(), is(true))
	for _, made := range []func() api.Query{selected, grouped} {
		for _, s := range []string{"", "9", "x ", "?x", "_x", "a23456789012345678901234567890123"} {
			checkChanges(t, made, api.ErrForm, order(api.Key{Name: s}), all(vars("w"), order(api.Key{Name: "v"}, api.Key{Name: s, Desc: true})))
			for kind := api.ACount; kind <= api.AMax; kind++ {
				want := api.ErrForm
				if s == "" && kind == api.ACount {
					want = api.OK
				}
				over := aggs(api.Agg{Kind: api.ACount, Name: "n"}, api.Agg{Kind: kind, Over: s, Name: "m"})
				checkChanges(t, made, want, all(bare, over), all(bare, over, vars("m", "n"), aggs(api.Agg{Kind: kind, Over: s, Name: "m"}, api.Agg{Kind: api.AMax, Over: "y", Name: "n"})))
				checkChanges(t, made, api.ErrForm, all(bare, aggs(api.Agg{Kind: kind, Over: "x", Name: s}), vars("x"), group("x")))
				if want == api.ErrForm {
					checkChanges(t, made, want, all(bare, over, vars()), all(bare, over, vars("w")), all(bare, over, order(api.Key{Name: "v"})), all(bare, over, group("u")), all(bare, over, code(api.Op{Kind: api.OBasic})))
				}
			}
		}
		for kind := api.ACount; kind <= api.AMax; kind++ {
			over := aggs(api.Agg{Kind: api.ACount, Name: "n"}, api.Agg{Kind: kind, Over: "w", Name: "m"})
			checkChanges(t, made, api.ErrScope, all(bare, over), all(bare, over, vars("m")))
		}
	}
	checkChanges(t, nothing, api.ErrForm, all(aggs(api.Agg{Kind: api.ASum, Name: "m"}), is(true)), all(aggs(api.Agg{Kind: api.ASum, Name: "m"}), is(true), vars("m")))
	q := nothing()
	q.Code, q.Group, q.Grouped = codeOfXYZ(), []string{"x"}, true
	if e := query.Check(q); e != api.ErrForm && e != api.ErrScope {
		t.Errorf("%s: %d", brief(q), e)
	}
}

// numbered tells n names.
func numbered(n int) []string {
	var l []string
	for i := range n {
		l = append(l, fmt.Sprintf("v%d", i))
	}
	return l
}

// P8.1: as many of each thing as may be, and one more.
func TestCheckOfMany(t *testing.T) {
	of := func(vars []string) []api.Op { return []api.Op{{Kind: api.OTable, Table: api.Table{Vars: vars}}} }
	wide := func() api.Query {
		c := append(of(numbered(40)[:20]), of(numbered(40)[20:])...)
		return api.Query{Vars: numbered(1), Limit: -1, Code: append(c, api.Op{Kind: api.OJoin})}
	}
	checkChanges(t, wide, api.OK, vars(numbered(31)...), vars(numbered(32)...))
	checkChanges(t, wide, api.ErrForm, vars(numbered(33)...), vars(numbered(40)...), vars(numbered(50)...), vars(slices.Repeat([]string{"v0"}, 1<<16)...))
	checkChanges(t, wide, api.OK, all(group(numbered(32)...), is(true)))
	checkChanges(t, wide, api.ErrForm, all(group(numbered(33)...), is(true)), all(group(numbered(40)...), is(true)), all(group(numbered(50)...), is(true)))
	checkChanges(t, wide, api.OK, order(slices.Repeat([]api.Key{{Name: "v0"}}, 32)...))
	checkChanges(t, wide, api.ErrForm, order(slices.Repeat([]api.Key{{Name: "v0"}}, 33)...), order(slices.Repeat([]api.Key{{Name: "w"}}, 33)...), order(slices.Repeat([]api.Key{{Name: "v0", Desc: true}}, 1<<16)...))
	count := func(n int) change {
		return func(q *api.Query) {
			q.Grouped, q.Vars = true, nil
			for i := range n {
				name := fmt.Sprintf("n%d", i)
				q.Aggs, q.Vars = append(q.Aggs, api.Agg{Kind: 1 + i%4, Over: "v3", Name: name}), append(q.Vars, name)
			}
		}
	}
	checkChanges(t, wide, api.OK, count(1), count(7), count(8))
	checkChanges(t, wide, api.ErrForm, count(9), count(32), count(40))
}

// P8.1: the error of the code goes ahead of the query's own, ErrForm ahead of ErrScope.
func TestCheckOrder(t *testing.T) {
	x := codeOfXYZ()[0]
	extend := api.Op{Kind: api.OExtend, Formula: []api.Part{{Kind: api.XVar, Name: "x"}}, Name: "x"}
	long := append([]api.Op{x}, slices.Repeat([]api.Op{{Kind: api.OFilter, Formula: extend.Formula}}, api.MaxOps)...)
	for _, made := range []func() api.Query{asked, selected, grouped} {
		checkChanges(t, made, api.ErrForm, code(), code(x, x), code(api.Op{}), code(api.Op{Kind: api.OJoin}), code(api.Op{Kind: 10}), code(x, extend, api.Op{Kind: api.OJoin}))
		for _, c := range []change{asItIs, limit(-2), limit(0), offset(-1), distinct, vars("x", "x"), vars("w"), vars(), is(true), is(false), group("w"), group("x", "x"), order(api.Key{}), order(api.Key{Name: "w"}), aggs(api.Agg{}), aggs(api.Agg{Kind: 1, Name: "w"})} {
			checkChanges(t, made, api.ErrScope, all(c, code(x, extend)))
			checkChanges(t, made, api.ErrLong, all(c, code(long...)))
			checkChanges(t, made, api.ErrForm, all(c, code(x, x)))
			checkChanges(t, made, api.OK, all(code(long[:api.MaxOps]...)))
		}
	}
	w := all(vars("x", "w"), order(api.Key{Name: "v"}))
	checkChanges(t, selected, api.ErrScope, w)
	checkChanges(t, selected, api.ErrForm, all(w, limit(-2)), all(w, offset(-1)), all(w, is(true)), all(w, vars("w", "w")), all(w, group("u")), all(w, vars(numbered(33)...)), all(w, order(make([]api.Key, 33)...)), all(w, vars("w", "")))
}

// P8.1: queries of any kind, with a few things of theirs done otherwise.
func TestCheckOfGrown(t *testing.T) {
	r := rand.New(rand.NewPCG(8, 4))
	names := []string{"x", "y", "z", "n", "m", "w", "9", ""}
	few := func(l []string, n int) []string {
		var some []string
		for range r.IntN(n + 1) {
			some = append(some, l[r.IntN(len(l))])
		}
		return some
	}
	numbers := []int{-2, -1, 0, 1, 999999999, 1000000000}
	count := map[api.Errno]int{}
	for range 60000 {
		q := []func() api.Query{asked, selected, grouped, nothing}[r.IntN(4)]()
		for range 1 + r.IntN(3) {
			good := names[:4+r.IntN(5)]
			switch r.IntN(9) {
			case 0:
				q.Vars = few(good, 4)
			case 1:
				q.Group = few(good, 3)
			case 2:
				q.Aggs = nil
				for _, s := range few(good[2:], 3) {
					q.Aggs = append(q.Aggs, api.Agg{Kind: r.IntN(9) % 6, Over: append(few(good, 1), "", "x")[0], Name: s})
				}
			case 3:
				q.Order = nil
				for _, s := range few(good, 2) {
					q.Order = append(q.Order, api.Key{Name: s, Desc: r.IntN(2) == 0})
				}
			case 4:
				q.Grouped = len(q.Group)+len(q.Aggs) > 0 != (r.IntN(6) == 0)
			case 5:
				q.Limit = numbers[r.IntN(len(numbers))]
			case 6:
				q.Offset = numbers[r.IntN(len(numbers))]
			case 7:
				q.Code = [][]api.Op{nothing().Code, codeOfXYZ(), {{Kind: api.OTable, Table: api.Table{Vars: []string{"n", "x"}}}}}[r.IntN(3)]
			default:
				q.Distinct = r.IntN(2) == 0
			}
		}
		errs := plainCheck(q)
		e := query.Check(q)
		count[e]++
		if !slices.Contains(errs, e) {
			t.Fatalf("%s: %d; not %d", brief(q), e, errs)
		}
	}
	if count[api.OK] < 5000 || count[api.ErrScope] < 5000 || count[api.ErrForm] < 5000 {
		t.Errorf("%v", count)
	}
}

// P8.1: a query is not changed, nor what lies behind its lists.
func TestCheckUntouched(t *testing.T) {
	for _, made := range []func() api.Query{asked, selected, grouped, nothing} {
		q := made()
		q.Vars = append(q.Vars, "room", "room")[:len(q.Vars)]
		q.Group = append(q.Group, "room", "room")[:len(q.Group)]
		q.Aggs = append(q.Aggs, api.Agg{Kind: -7})[:len(q.Aggs)]
		q.Order = append(q.Order, api.Key{Name: "room"})[:len(q.Order)]
		q.Code = append(q.Code, api.Op{Kind: -7})[:len(q.Code)]
		if e := query.Check(q); e != api.OK || !same(q, made()) {
			t.Errorf("%s %d", brief(q), e)
		}
		n, m, l := len(q.Vars), len(q.Group), len(q.Code)
		if !slices.Equal(q.Vars[n:n+2], []string{"room", "room"}) || !slices.Equal(q.Group[m:m+2], []string{"room", "room"}) || q.Code[:l+1][l].Kind != -7 || q.Aggs[:len(q.Aggs)+1][len(q.Aggs)].Kind != -7 || q.Order[:len(q.Order)+1][len(q.Order)].Name != "room" {
			t.Errorf("%s: what lies behind a list was changed", brief(q))
		}
	}
}
