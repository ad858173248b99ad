package table_test

import (
	"slices"
	"strconv"
	"strings"
	"testing"

	"legation/api"
	"legation/table"
)

// columns are n variables, whose names begin so.
func columns(begin string, n int) []string {
	var l []string
	for i := range n {
		l = append(l, begin+strconv.Itoa(i))
	}
	return l
}

// sized tells a table of these variables and n rows, each of one number in all columns: from a number on, each one more.
func sized(vars []string, n, from int) api.Table {
	a := api.Table{Vars: vars}
	for i := range n {
		a.Rows = append(a.Rows, slices.Repeat([]api.Term{integer(strconv.Itoa(from + i))}, len(vars)))
	}
	return a
}

// wrongNames are no names.
func wrongNames() []string {
	return []string{"", " ", "1", "_", "_a", "?x", "x y", "x ", "x.", "é", "x\x00", "\xff", "x-y", strings.Repeat("x", 33), strings.Repeat("x", 1<<16)}
}

// wrongTerms may not stand in a table: variables, and those that are not right.
func wrongTerms() []api.Term {
	long := strings.Repeat("a", api.MaxText+1)
	return []api.Term{
		{Kind: api.Var, Text: "x"}, {Kind: api.Var, Text: "y"}, {Kind: api.Var}, {Text: "a"}, {Type: "t"}, {Lang: "en"}, {Kind: -1}, {Kind: 5}, {Kind: 5, Text: "a"}, {Kind: 1<<63 - 1, Text: "a"}, {Kind: -1 << 63},
		iri(""), iri("a b"), iri("é"), iri(long), {Kind: api.Iri, Text: "a", Type: "t"}, {Kind: api.Iri, Text: "a", Lang: "en"}, blank(""), blank("1"), blank(strings.Repeat("b", 33)), {Kind: api.Blank, Text: "a", Type: "t"},
		literal("é"), literal("\x00"), literal("\r"), literal(long), {Kind: api.Literal, Text: "a", Type: "t t"}, {Kind: api.Literal, Text: "a", Type: long}, {Kind: api.Literal, Text: "a", Lang: "EN"}, {Kind: api.Literal, Text: "a", Lang: "abcdefghi"}, {Kind: api.Literal, Text: "a", Type: "t", Lang: "en"},
	}
}

// wrongTables are not right, each by one thing.
func wrongTables() []api.Table {
	one, row := integer("1"), []api.Term{integer("1"), {}}
	xy := []string{"x", "y"}
	l := []api.Table{
		{Vars: []string{"x", "x"}}, {Vars: []string{"x", "y", "x"}}, {Vars: []string{"y", "x", "x"}}, {Vars: []string{"x", "x"}, Rows: [][]api.Term{{one, one}}}, {Vars: append(columns("v", 31), "v0")},
		{Rows: [][]api.Term{{one}}}, {Rows: [][]api.Term{nil, {{}}}}, {Vars: []string{"x"}, Rows: [][]api.Term{nil}}, {Vars: []string{"x"}, Rows: [][]api.Term{{one}, {}}},
		{Vars: columns("v", api.MaxVars+1)}, sized(columns("v", api.MaxVars+1), 1, 0), {Vars: columns("v", 1000)}, {Vars: slices.Repeat([]string{"x"}, 1<<16)},
		sized([]string{"x"}, api.MaxRows+1, 0), sized(nil, api.MaxRows+1, 0), sized(nil, 3*api.MaxRows, 0),
	}
	for _, s := range wrongNames() {
		l = append(l, api.Table{Vars: []string{s}}, api.Table{Vars: []string{s, "x"}}, api.Table{Vars: []string{"x", s}, Rows: [][]api.Term{row}})
	}
	for _, w := range [][]api.Term{nil, {one}, {one, one, one}, {one, {}, {}}, make([]api.Term, 1<<16)} { // a term too few, and too many
		l = append(l, api.Table{Vars: xy, Rows: [][]api.Term{w}}, api.Table{Vars: xy, Rows: [][]api.Term{row, w}}, api.Table{Vars: xy, Rows: [][]api.Term{w, row, row}})
	}
	for _, x := range wrongTerms() {
		l = append(l, api.Table{Vars: xy, Rows: [][]api.Term{{x, one}}}, api.Table{Vars: xy, Rows: [][]api.Term{row, {one, x}}}, api.Table{Vars: xy, Rows: [][]api.Term{row, {x, {}}, row}})
	}
	last := sized([]string{"x"}, api.MaxRows, 0)
	last.Rows[api.MaxRows-1][0] = api.Term{Kind: api.Var, Text: "x"}
	return append(l, last)
}

// rightTables are right, at edges.
func rightTables() []api.Table {
	long := strings.Repeat("a", api.MaxText)
	l := []api.Table{
		{}, {Vars: []string{}, Rows: [][]api.Term{}}, {Rows: [][]api.Term{nil}}, {Rows: [][]api.Term{{}, nil}}, {Vars: []string{"x"}}, {Vars: []string{"x", "X", "x1", "x_", strings.Repeat("x", 32)}},
		{Vars: columns("v", api.MaxVars)}, sized(columns("v", api.MaxVars), 2, 0), sized([]string{"x"}, api.MaxRows, 0), sized(nil, api.MaxRows, 0), sized([]string{"x", "y"}, api.MaxRows-1, 0),
	}
	for _, x := range append(someTerms(), iri(long), literal(long), literal("\n\t ~"), api.Term{Kind: api.Literal, Type: long}, blank(strings.Repeat("b", 32)), api.Term{Kind: api.Literal, Lang: "abcdefgh"}) {
		l = append(l, api.Table{Vars: []string{"x", "y"}, Rows: [][]api.Term{{x, {}}, {{}, x}, {x, x}, {x, x}}})
	}
	return l
}

// wrongFormulas tells formulas that are refused, and by which error.
func wrongFormulas() map[api.Errno][][]api.Part {
	x := api.Part{Kind: api.XVar, Name: "x"}
	return map[api.Errno][][]api.Part{
		api.ErrForm: {{{Kind: api.XNot}}, {x, x}, {x, {Kind: api.XAnd}}, {x, {Kind: 27}}, {{}}, {{Kind: api.XVar}}, {{Kind: api.XVar, Name: "?x"}}, {{Kind: api.XTerm}}, {{Kind: api.XTerm, Term: blank("b")}}, {x, {Kind: api.XCoalesce}}, slices.Repeat([]api.Part{x}, api.MaxFormula)},
		api.ErrLong: {nots(api.MaxFormula + 1), nots(1 << 16), make([]api.Part, api.MaxFormula+1)},
	}
}

// nots tells a formula of n parts: a variable, and a ! for each further one.
func nots(n int) []api.Part {
	return append([]api.Part{{Kind: api.XVar, Name: "x"}}, slices.Repeat([]api.Part{{Kind: api.XNot}}, n-1)...)
}

// P11.1: Check tells right tables from others.
func TestCheck(t *testing.T) {
	for _, a := range rightTables() {
		if e := table.Check(a); e != api.OK {
			t.Errorf("%s: %d", written(a), e)
		}
	}
	for _, a := range wrongTables() {
		if e := table.Check(a); e != api.ErrForm {
			t.Errorf("%s: %d", written(a), e)
		}
	}
}

// P11.1: a table that is not right, in any place and whatever else is wrong: ErrForm.
func TestWrongTables(t *testing.T) {
	tooLong := wrongFormulas()[api.ErrLong][0]
	wide, full, unit := sized(columns("v", api.MaxVars), 1, 0), sized([]string{"z"}, api.MaxRows, 0), table.Unit()
	f := []api.Part{{Kind: api.XBound, Name: "x"}}
	for _, w := range wrongTables() {
		what := written(w)
		for _, pair := range [][2]api.Table{{w, {}}, {{}, w}, {w, unit}, {unit, w}, {w, w}, {w, wide}, {wide, w}, {w, full}, {full, w}} {
			got, e := table.Join(pair[0], pair[1])
			refused(t, "Join "+what, got, e, api.ErrForm)
			got, e = table.Union(pair[0], pair[1])
			refused(t, "Union "+what, got, e, api.ErrForm)
			got, e = table.Minus(pair[0], pair[1])
			refused(t, "Minus "+what, got, e, api.ErrForm)
			for _, f := range [][]api.Part{nil, f, tooLong} {
				got, e = table.Left(pair[0], pair[1], f)
				refused(t, "Left "+what, got, e, api.ErrForm)
			}
		}
		for _, f := range [][]api.Part{nil, f, tooLong} {
			got, e := table.Filter(w, f)
			refused(t, "Filter "+what, got, e, api.ErrForm)
			for _, name := range []string{"new", "x", "", "v0"} {
				got, e = table.Extend(w, name, f)
				refused(t, "Extend "+what, got, e, api.ErrForm)
			}
		}
	}
}

// P11.1: formulas that are wrong, or too long, go ahead of names, and of what would be too much; also where no row asks for one.
func TestWrongFormulas(t *testing.T) {
	wide, many := sized(columns("v", api.MaxVars), 1, 0), sized([]string{"x"}, api.MaxRows, 0)
	for want, l := range wrongFormulas() {
		for _, f := range l {
			for _, a := range []api.Table{{}, {Vars: []string{"x"}}, table.Unit(), wide, many} {
				got, e := table.Filter(a, f)
				refused(t, "Filter", got, e, want)
				for _, name := range []string{"new", "x", "v0", "", "1", "?x"} {
					got, e = table.Extend(a, name, f)
					refused(t, "Extend", got, e, want)
				}
				for _, b := range []api.Table{{}, table.Unit(), wide, many, {Vars: []string{"y"}}} {
					got, e = table.Left(a, b, f)
					refused(t, "Left", got, e, want)
				}
			}
		}
	}
	for _, f := range [][]api.Part{nil, {}} { // no formula; of Left it is none that is asked for
		got, e := table.Filter(table.Unit(), f)
		refused(t, "Filter", got, e, api.ErrForm)
		got, e = table.Extend(table.Unit(), "x", f)
		refused(t, "Extend", got, e, api.ErrForm)
		got, e = table.Left(table.Unit(), table.Unit(), f)
		check(t, "Left", got, e, table.Unit())
	}
	got, e := table.Filter(of(t, "x|1|0"), nots(api.MaxFormula)) // as long as may be, and an odd number of !
	check(t, "Filter", got, e, of(t, "x|0"))
	got, e = table.Extend(of(t, "x|1"), "y", nots(api.MaxFormula-1))
	check(t, "Extend", got, e, of(t, `x y|1 "true"^^<`+api.TypeBoolean+">"))
	got, e = table.Left(of(t, "x|1|0"), of(t, "y|2"), nots(api.MaxFormula))
	check(t, "Left", got, e, of(t, "x y|1 -|0 2"))
}

// P11.1: names that are none, and those that are there already.
func TestWrongNames(t *testing.T) {
	f := parts(t, "1")
	wide := sized(columns("v", api.MaxVars), 3, 0)
	for _, name := range wrongNames() {
		for _, a := range []api.Table{{}, table.Unit(), of(t, "x y|1 2"), wide} {
			got, e := table.Extend(a, name, f)
			refused(t, "Extend "+name, got, e, api.ErrForm)
		}
	}
	for _, a := range []api.Table{of(t, "x"), of(t, "x y|1 2"), of(t, "y x|1 2|1 2"), of(t, "a b x c|1 2 - 4")} {
		got, e := table.Extend(a, "x", f)
		refused(t, "Extend "+written(a), got, e, api.ErrScope)
	}
	for _, name := range wide.Vars { // ahead of that there would be too many
		got, e := table.Extend(wide, name, f)
		refused(t, "Extend "+name, got, e, api.ErrScope)
	}
	for _, name := range []string{"X", "xx", "x1", strings.Repeat("x", 32)} {
		got, e := table.Extend(of(t, "x|2"), name, f)
		check(t, "Extend "+name, got, e, of(t, "x "+name+"|2 1"))
	}
}
