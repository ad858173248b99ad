package group_test

import (
	"math"
	"slices"
	"strings"
	"testing"

	"legation/api"
	"legation/group"
)

// wrongNames are no names. The empty one, which is none either, isn't among them, since it may be an Over.
func wrongNames() []string {
	return []string{" ", "1", "_", "_a", "?x", "*", "x y", "x ", "x.", "é", "x\x00", "\xff", "x-y", strings.Repeat("x", 33), strings.Repeat("x", 1<<16)}
}

// wrongTerms may not stand in a table: a variable, and those that are not right.
func wrongTerms() []api.Term {
	long := strings.Repeat("a", api.MaxText+1)
	return []api.Term{
		{Kind: api.Var, Text: "x"}, {Text: "a"}, {Type: "t"}, {Lang: "en"}, {Kind: -1}, {Kind: 5, Text: "a"}, {Kind: math.MaxInt, Text: "a"}, {Kind: math.MinInt},
		iri(""), iri("a b"), iri("a\x00"), iri("é"), iri(long), {Kind: api.Iri, Text: "a", Type: "t"}, {Kind: api.Iri, Text: "a", Lang: "en"}, blank(""), blank("1"), blank("a\x00"), {Kind: api.Blank, Text: "a", Type: "t"},
		literal("é"), literal("\x00"), literal("a\x00b"), literal("\r"), literal(long), typed("a", "t t"), typed("a", long), typed("1", "t\x00"), tagged("a", "EN"), tagged("a", "abcdefghi"), tagged("a", "e\x00"), {Kind: api.Literal, Text: "a", Type: "t", Lang: "en"}, integer("1\x00"),
	}
}

// wrongTables are not right, each by one thing.
func wrongTables() []api.Table {
	one, row := integer("1"), []api.Term{integer("1"), {}}
	xy := []string{"x", "y"}
	l := []api.Table{
		{Vars: []string{"x", "x"}}, {Vars: []string{"x", "y", "x"}, Rows: [][]api.Term{{one, one, one}}}, {Vars: append(columns("v", 31), "v0")}, {Vars: columns("v", api.MaxVars+1)}, sized(columns("v", api.MaxVars+1), 1, 0), {Vars: slices.Repeat([]string{"x"}, 1<<16)},
		{Rows: [][]api.Term{{one}}}, {Rows: [][]api.Term{nil, {{}}}}, {Vars: []string{"x"}, Rows: [][]api.Term{nil}}, {Vars: []string{"x"}, Rows: [][]api.Term{{one}, {}}}, {Vars: xy, Rows: [][]api.Term{{one}, {one, one, one}}}, {Vars: xy, Rows: [][]api.Term{row, make([]api.Term, 1<<16)}},
		sized([]string{"x"}, api.MaxRows+1, 0), sized(nil, api.MaxRows+1, 0), sized(nil, 3*api.MaxRows, 0),
	}
	for _, s := range append(wrongNames(), "") {
		l = append(l, api.Table{Vars: []string{s}}, api.Table{Vars: []string{"x", s}, Rows: [][]api.Term{row}})
	}
	for _, x := range wrongTerms() {
		l = append(l, api.Table{Vars: xy, Rows: [][]api.Term{{x, one}}}, api.Table{Vars: xy, Rows: [][]api.Term{row, row, {one, x}}})
	}
	last := sized([]string{"x"}, api.MaxRows, 0)
	last.Rows[api.MaxRows-1][0] = api.Term{Kind: api.Var, Text: "x"}
	return append(l, last)
}

// told holds what Check answers, and that Group and Of answer the same and nothing beside it.
func told(t *testing.T, a api.Table, by []string, l []api.Agg, want api.Errno) {
	t.Helper()
	if e := group.Check(a, by, l); e != want {
		t.Fatalf("Check of %s by %.99q of %.99v: %d; not %d", written(a), by, l, e, want)
	}
	g, e := group.Group(a, by, l)
	if e != want || want != api.OK && (len(g.Vars) > 0 || len(g.Rows) > 0) {
		t.Fatalf("Group of %s by %.99q of %.99v: %s, %d; not %d", written(a), by, l, written(g), e, want)
	}
	if len(by) == 0 && len(l) == 1 {
		x, e := group.Of(a, l[0])
		if e != want || want != api.OK && x != (api.Term{}) {
			t.Fatalf("Of %s of %v: %s, %d; not %d", written(a), l[0], word(x), e, want)
		}
	}
}

// someRight are right tables that have the variables x and y.
func someRight(t *testing.T) []api.Table {
	most := sized(append(columns("v", api.MaxVars-2), "y", "x"), 2, 0)
	return []api.Table{of(t, "x y"), of(t, "x y|1 2|3 -"), of(t, "z y x|1 2 <a>|- - -"), most}
}

// P13.1: what is right by itself.
func TestCheckRight(t *testing.T) {
	for _, a := range someRight(t) {
		for _, by := range [][]string{nil, {}, {"x"}, {"y"}, {"x", "y"}, {"y", "x"}} {
			for _, s := range []string{"", "count * c", "count x c", "sum x c", "min x c", "max x c", "count * c count * d", "count x X sum x Y min y xx max y x1", "count * c sum x d sum x e sum x f"} {
				told(t, a, by, aggs(t, s), api.OK)
			}
		}
	}
	told(t, sized([]string{"x"}, api.MaxRows, 0), []string{"x"}, aggs(t, "count * c sum x s"), api.OK)
	for kind := api.ACount; kind <= api.AMax; kind++ {
		told(t, of(t, "x y"), nil, []api.Agg{{Kind: kind, Over: "x", Name: strings.Repeat("n", 32)}}, api.OK)
	}
}

// P13.1: a table that is not right is ErrForm, ahead of whatever else is wrong.
func TestWrongTables(t *testing.T) {
	for _, a := range wrongTables() {
		for _, by := range [][]string{nil, {"x"}, {"q"}, {"x", "x"}, {""}, columns("v", api.MaxVars+1), a.Vars} {
			for _, l := range [][]api.Agg{nil, counts("c", 1), aggs(t, "sum x s"), aggs(t, "sum q s"), aggs(t, "count * x"), {{}}, counts("c", api.MaxVars+1)} {
				told(t, a, by, l, api.ErrForm)
			}
		}
	}
}

// P13.1: names of by that are none, or stand twice, whether there are such variables or not.
func TestWrongBy(t *testing.T) {
	wrong := [][]string{{""}, {"x", "x"}, {"x", "y", "x"}, {"q", "q"}, {"x", "q", "q"}, {"x", ""}, {"", "x"}, slices.Repeat([]string{"x"}, 40), append(columns("v", 40), "v0"), append(columns("v", 30), "v29"), append(columns("v", 30), "")}
	for _, s := range wrongNames() {
		wrong = append(wrong, []string{s}, []string{"x", s}, []string{s, "y", "x"})
	}
	for _, a := range someRight(t) {
		for _, by := range wrong {
			for _, l := range [][]api.Agg{nil, counts("c", 1), aggs(t, "sum q s"), aggs(t, "sum x x"), counts("c", 40)} {
				told(t, a, by, l, api.ErrForm)
			}
		}
	}
}

// wrongAggs are aggregates of which one, or what they are together, is not of its form.
func wrongAggs(t *testing.T) [][]api.Agg {
	var l [][]api.Agg
	one := func(a api.Agg) {
		l = append(l, []api.Agg{a}, append(counts("c", 2), a), append([]api.Agg{a}, counts("c", 2)...))
	}
	for _, kind := range []int{0, -1, 5, 6, 26, math.MaxInt, math.MinInt, 1 << 32, 1<<32 + 1} {
		one(api.Agg{Kind: kind, Over: "x", Name: "n"})
		one(api.Agg{Kind: kind, Name: "n"})
	}
	for kind := api.ACount; kind <= api.AMax; kind++ {
		one(api.Agg{Kind: kind, Over: "x"})
		if kind != api.ACount {
			one(api.Agg{Kind: kind, Name: "n"})
		}
		for _, s := range wrongNames() {
			one(api.Agg{Kind: kind, Over: "x", Name: s})
			one(api.Agg{Kind: kind, Over: s, Name: "n"})
		}
	}
	one(api.Agg{})
	one(api.Agg{Kind: api.ACount})
	for _, s := range []string{"count * c count * c", "count x c sum y c", "sum x c count * d min x c", "min x x max x x", "count * q sum q q"} {
		l = append(l, aggs(t, s))
	}
	return append(l, append(counts("c", 40), counts("c", 1)...), make([]api.Agg, 40))
}

// P13.1: Kinds that are none, Names that are none or another's, Overs that are none or lack: ErrForm, ahead of stray names and of too many columns.
func TestWrongAggregates(t *testing.T) {
	for _, a := range someRight(t) {
		for _, l := range wrongAggs(t) {
			for _, by := range [][]string{nil, {"x"}, {"q"}, columns("v", 40)} {
				told(t, a, by, l, api.ErrForm)
				told(t, a, by, append(aggs(t, "sum q s"), l...), api.ErrForm)
				told(t, a, by, append(aggs(t, "count * x"), l...), api.ErrForm)
				told(t, a, by, append(counts("d", api.MaxVars), l...), api.ErrForm)
			}
		}
	}
}

// P13.1: one of by, or an Over, that is no variable, or a Name that is one: ErrScope, ahead of too many columns.
func TestStrayNames(t *testing.T) {
	for _, a := range someRight(t) {
		for _, by := range [][]string{{"q"}, {"x", "q"}, {"q", "y", "x"}, {"X"}, {"xy"}, columns("q", api.MaxVars), columns("q", api.MaxVars+1), columns("q", 1000)} {
			told(t, a, by, nil, api.ErrScope)
			told(t, a, by, aggs(t, "count x c"), api.ErrScope)
			told(t, a, by, counts("c", api.MaxVars+1), api.ErrScope)
		}
		told(t, a, []string{"c"}, aggs(t, "count * c"), api.ErrScope) // a Name is no variable
		told(t, a, []string{"x", "c"}, aggs(t, "count * c"), api.ErrScope)
		for _, s := range []string{"count q c", "sum q c", "min q c", "max q c", "count X c", "count * c sum q d", "sum x c sum c d", "sum c c", "count q x", "count * x", "count x x", "sum y x", "max x y", "count * c count * x", "min q y sum x s"} {
			l := aggs(t, s)
			for _, by := range [][]string{nil, {"x"}, {"y", "x"}} {
				told(t, a, by, l, api.ErrScope)
				told(t, a, by, slices.Concat(counts("n", api.MaxVars), l), api.ErrScope)
				told(t, a, by, slices.Concat(l, counts("n", api.MaxVars)), api.ErrScope)
			}
		}
	}
	told(t, api.Table{}, []string{"x"}, nil, api.ErrScope)
	told(t, api.Table{}, nil, aggs(t, "count x c"), api.ErrScope)
	told(t, api.Table{Rows: make([][]api.Term, 3)}, []string{"x"}, counts("c", 1), api.ErrScope)
}

// P13.1: more than MaxVars columns, by and aggregates together.
func TestTooManyColumns(t *testing.T) {
	vars := columns("v", api.MaxVars)
	for _, a := range []api.Table{{Vars: vars}, sized(vars, 2, 0)} {
		for n := range api.MaxVars + 1 {
			told(t, a, vars[:n], counts("c", api.MaxVars-n), api.OK)
			told(t, a, vars[:n], counts("c", api.MaxVars-n+1), api.ErrLong)
			told(t, a, vars[:n], counts("c", 100), api.ErrLong)
		}
	}
	for _, a := range []api.Table{{}, {Rows: make([][]api.Term, 2)}, of(t, "x|1")} {
		told(t, a, nil, counts("c", api.MaxVars), api.OK)
		told(t, a, nil, counts("c", api.MaxVars+1), api.ErrLong)
		told(t, a, nil, counts("c", 1<<16), api.ErrLong)
	}
	told(t, of(t, "x|1"), []string{"x"}, counts("c", api.MaxVars), api.ErrLong)
}
