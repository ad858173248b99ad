package shape_test

import (
	"math"
	"slices"
	"strings"
	"testing"

	"legation/api"
	"legation/shape"
)

// wrongNames are no names.
func wrongNames() []string {
	return []string{"", " ", "1", "_", "_a", "?x", "x y", "x ", "x.", "é", "x\x00", "\xff", "x-y", strings.Repeat("x", 33), strings.Repeat("x", 1<<16)}
}

// wrongTerms may not stand in a table: a variable, and those that are not right.
func wrongTerms() []api.Term {
	long := strings.Repeat("a", api.MaxText+1)
	return []api.Term{
		variable("x"), variable(""), {Text: "a"}, {Type: "t"}, {Lang: "en"}, {Kind: -1}, {Kind: 5}, {Kind: 5, Text: "a"}, {Kind: math.MaxInt, Text: "a"}, {Kind: math.MinInt},
		iri(""), iri("a b"), iri("a\x00"), iri("é"), iri(long), {Kind: api.Iri, Text: "a", Type: "t"}, {Kind: api.Iri, Text: "a", Lang: "en"}, blank(""), blank("1"), blank("a\x00"), blank(strings.Repeat("b", 33)), {Kind: api.Blank, Text: "a", Type: "t"},
		literal("é"), literal("\x00"), literal("a\x00b"), literal("\r"), literal(long), typed("a", "t t"), typed("a", long), typed("1", "t\x00"), tagged("a", "EN"), tagged("a", "abcdefghi"), tagged("a", "e\x00"), {Kind: api.Literal, Text: "a", Type: "t", Lang: "en"}, integer("1\x00"),
	}
}

// wrongTables are not right, each by one thing.
func wrongTables() []api.Table {
	one, row := integer("1"), []api.Term{integer("1"), {}}
	xy := []string{"x", "y"}
	l := []api.Table{
		{Vars: []string{"x", "x"}}, {Vars: []string{"x", "y", "x"}, Rows: [][]api.Term{{one, one, one}}}, {Vars: append(columns("v", 31), "v0")}, {Vars: columns("v", api.MaxVars+1)}, sized(columns("v", api.MaxVars+1), 1, 0), {Vars: slices.Repeat([]string{"x"}, 1<<16)},
		{Rows: [][]api.Term{{one}}}, {Rows: [][]api.Term{nil, {{}}}}, {Vars: []string{"x"}, Rows: [][]api.Term{nil}}, {Vars: []string{"x"}, Rows: [][]api.Term{{one}, {}}}, {Vars: xy, Rows: [][]api.Term{{one}, {one, one, one}}}, {Vars: xy, Rows: [][]api.Term{row, make([]api.Term, 1<<16)}},
		sized([]string{"x"}, api.MaxRows+1, 0), sized(nil, api.MaxRows+1, 0), sized(nil, 3*api.MaxRows, 0),
	}
	for _, s := range wrongNames() {
		l = append(l, api.Table{Vars: []string{s}}, api.Table{Vars: []string{"x", s}, Rows: [][]api.Term{row}})
	}
	for _, x := range wrongTerms() {
		l = append(l, api.Table{Vars: xy, Rows: [][]api.Term{{x, one}}}, api.Table{Vars: xy, Rows: [][]api.Term{row, row, {one, x}}})
	}
	last := sized([]string{"x"}, api.MaxRows, 0)
	last.Rows[api.MaxRows-1][0] = variable("x")
	return append(l, last)
}

// P12.1: a table that is not right is ErrForm, ahead of whatever else is wrong.
func TestWrongTables(t *testing.T) {
	for _, a := range wrongTables() {
		what := written(a)
		for _, vars := range [][]string{nil, {"x"}, {"x", "x"}, {""}, columns("v", api.MaxVars+1), a.Vars} {
			got, e := shape.Project(a, vars)
			refused(t, "Project "+what, got, e, api.ErrForm)
		}
		for _, keys := range [][]api.Key{nil, {{Name: "x"}}, {{Name: "y", Desc: true}}} {
			got, e := shape.Order(a, keys)
			refused(t, "Order "+what, got, e, api.ErrForm)
		}
		got, e := shape.Distinct(a)
		refused(t, "Distinct "+what, got, e, api.ErrForm)
		for _, n := range [][2]int{{0, -1}, {0, 0}, {1, 1}, {-1, -1}, {0, -2}, {math.MinInt, math.MinInt}, {math.MaxInt, math.MaxInt}} {
			got, e := shape.Slice(a, n[0], n[1])
			refused(t, "Slice "+what, got, e, api.ErrForm)
		}
	}
}

// P12.2: what is not right is not the same as anything, not as itself either.
func TestWrongSame(t *testing.T) {
	for _, a := range wrongTables() {
		for _, b := range []api.Table{a, {}, {Vars: []string{"x", "y"}}, {Vars: []string{"x"}}, of(t, "x y|1 -"), of(t, "x|1")} {
			if shape.Same(a, b) || shape.Same(b, a) {
				t.Errorf("%s and %s", written(a), written(b))
			}
		}
	}
}

// P12.1: names that are none, or stand twice, are ErrForm; too many are ErrLong, whatever they are.
func TestWrongColumns(t *testing.T) {
	tables := []api.Table{{}, {Rows: make([][]api.Term, 3)}, of(t, "x y|1 2|3 -"), sized(columns("v", api.MaxVars), 2, 0)}
	for _, a := range tables {
		wrong := [][]string{{"x", "x"}, {"x", "y", "x"}, {"z", "z"}, {"v0", "v1", "v1"}, append(columns("v", api.MaxVars-1), "v30"), slices.Repeat([]string{"x"}, api.MaxVars)}
		for _, s := range wrongNames() {
			wrong = append(wrong, []string{s}, []string{"x", s}, []string{s, "x", "y"}, append(columns("v", api.MaxVars-1), s))
		}
		for _, vars := range wrong {
			got, e := shape.Project(a, vars)
			refused(t, "Project", got, e, api.ErrForm)
		}
		for _, vars := range [][]string{columns("v", api.MaxVars+1), columns("w", 1000), slices.Repeat([]string{"x"}, api.MaxVars+1), make([]string, api.MaxVars+1), append(columns("v", api.MaxVars), ""), append(columns("v", api.MaxVars), "v0"), slices.Repeat([]string{"?"}, 1<<16)} {
			got, e := shape.Project(a, vars)
			refused(t, "Project", got, e, api.ErrLong)
		}
	}
}

// P12.1: an offset below 0, a limit below -1.
func TestWrongRanges(t *testing.T) {
	for _, a := range []api.Table{{}, {Rows: make([][]api.Term, 1)}, of(t, "x"), of(t, "x y|1 2|3 -"), sized([]string{"x"}, api.MaxRows, 0)} {
		for _, n := range [][2]int{{-1, -1}, {-1, 0}, {-1, 1}, {math.MinInt, 0}, {math.MinInt, math.MaxInt}, {0, -2}, {1, -2}, {api.MaxRows, -3}, {0, math.MinInt}, {math.MaxInt, math.MinInt}, {math.MinInt, math.MinInt}, {-1, -2}} {
			got, e := shape.Slice(a, n[0], n[1])
			refused(t, "Slice "+written(a), got, e, api.ErrRange)
		}
	}
}
