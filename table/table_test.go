package table_test

import (
	"math/rand/v2"
	"slices"
	"testing"

	"legation/api"
	"legation/table"
)

// two are two tables, and what comes of them by a formula.
type two struct{ a, b, by, want string }

// P11.1: Unit has one row, of no terms; it is a right table, and another one at each call.
func TestUnit(t *testing.T) {
	u := table.Unit()
	if len(u.Vars) != 0 || len(u.Rows) != 1 || len(u.Rows[0]) != 0 || table.Check(u) != api.OK {
		t.Fatalf("%v", u)
	}
	u.Rows[0] = []api.Term{iri("a")}
	u.Vars = append(u.Vars, "x")
	if again := table.Unit(); len(again.Vars) != 0 || len(again.Rows) != 1 || len(again.Rows[0]) != 0 {
		t.Fatalf("%v", again)
	}
}

// P11.1: what rows make that go together, the chapter's example first.
func TestJoin(t *testing.T) {
	for _, c := range []two{
		{"x y|1 2|3 -", "y z|2 4|5 6", "", "x y z|1 2 4|3 2 4|3 5 6"},
		{"x|1|2", "y|3|4", "", "x y|1 3|1 4|2 3|2 4"},
		{"x|1|2|3", "x|3|1", "", "x|1|3"},
		{"x y|1 2|3 4", "y z|- 5|2 -", "", "x y z|1 2 5|1 2 -|3 4 5"},
		{"x|-", "x|-", "", "x|-"},
		{"x|-|1", "x|-|2", "", "x|-|2|1"},
		{"x y|1 2", "x y|1 3|- 2|1 -|2 2", "", "x y|1 2|1 2"},
		{"x y|1 -", "x y|- 2", "", "x y|1 2"},
		{"x y|1 2", "y x|2 1|1 2", "", "x y|1 2"},
		{"x y|- 2", "y x|2 1|- 3|2 -", "", "x y|1 2|3 2|- 2"},
		{"y x|1 2", "z x w y|3 2 4 1|3 1 4 2", "", "y x z w|1 2 3 4"},
		{"x|1|1", "x|1|1", "", "x|1|1|1|1"},
		{"x", "x|1", "", "x"}, {"x|1", "x", "", "x"}, {"x|1", "y", "", "x y"}, {"x", "y", "", "x y"},
		{"|", "x|1", "", "x|1"}, {"||", "x|1|2", "", "x|1|2|1|2"}, {"", "x|1", "", "x"}, {"|", "|", "", "|"}, {"||", "||", "", "||||"}, {"", "", "", ""}, {"", "|", "", ""},
		{"x|1", "x|01", "", "x"}, {`x|"1"`, "x|1", "", "x"}, {`x|"a"`, `x|"a"@en`, "", "x"}, {`x|"a"@de`, `x|"a"@en`, "", "x"}, {`x|"a"`, `x|"a"^^<t>`, "", "x"}, {"x|<a>", `x|"a"`, "", "x"}, {"x|<a>", "x|_:a", "", "x"}, {"x|<a>", "x|<A>", "", "x"},
		{`x|<a>|_:a|"a"@en|""`, `x|""|_:a|"a"@en|<a>`, "", `x|<a>|_:a|"a"@en|""`},
		{"x X|1 2", "X x|1 2", "", "x X"}, {"x|1", "X|2", "", "x X|1 2"},
	} {
		got, e := table.Join(of(t, c.a), of(t, c.b))
		check(t, c.a+" and "+c.b, got, e, of(t, c.want))
	}
}

// P11.1: the rows of both, with None where they have no such variable.
func TestUnion(t *testing.T) {
	for _, c := range []two{
		{"x y|1 2|3 -|4 9", "y z|2 4|5 6", "", "x y z|1 2 -|3 - -|4 9 -|- 2 4|- 5 6"},
		{"x|1", "y|2", "", "x y|1 -|- 2"}, {"y|1", "x|2", "", "y x|1 -|- 2"},
		{"x y|1 2", "y x|3 4|- 5", "", "x y|1 2|4 3|5 -"},
		{"x|1|1", "x|1|-", "", "x|1|1|1|-"},
		{"x|-", "x y|- -", "", "x y|- -|- -"},
		{"y", "z x y|1 2 3", "", "y z x|3 1 2"},
		{"|", "|", "", "||"}, {"", "|", "", "|"}, {"||", "", "", "||"}, {"", "", "", ""}, {"|", "x|1", "", "x|-|1"}, {"x|1", "|", "", "x|1|-"},
		{"x", "y", "", "x y"}, {"x|1", "", "", "x|1"}, {"", "x|1|1", "", "x|1|1"}, {"x", "x|2|1", "", "x|2|1"}, {"x|2|1", "y", "", "x y|2 -|1 -"},
	} {
		got, e := table.Union(of(t, c.a), of(t, c.b))
		check(t, c.a+" and "+c.b, got, e, of(t, c.want))
	}
}

// P11.1: rows are taken off just by rows that go together with them by a variable that is bound in both.
func TestMinus(t *testing.T) {
	for _, c := range []two{
		{"x y|1 2|3 -|4 9", "y z|2 4|5 6", "", "x y|3 -|4 9"},
		{"x|1|2", "y|1", "", "x|1|2"}, {"x|1|2|3", "x|3|1", "", "x|2"}, {"x|1", "X|1", "", "x|1"},
		{"x|1", "x|-", "", "x|1"}, {"x|-", "x|1", "", "x|-"}, {"x|-", "x|-", "", "x|-"}, {"x|-|1|2", "x|-|1", "", "x|-|2"},
		{"x y|1 2|1 3|2 3", "x y|1 -", "", "x y|2 3"}, {"x y|1 -|2 -", "x y|1 5", "", "x y|2 -"}, {"x y|1 2", "x y|- 2", "", "x y"}, {"x y|1 2", "x y|1 3|3 2", "", "x y|1 2"}, {"x y|1 -", "x y|- 2", "", "x y|1 -"}, {"x y|1 -", "x y|- 2|1 -", "", "x y"},
		{"x y|1 2|2 1", "y x|2 1", "", "x y|2 1"}, {"x y z|1 2 3|1 2 -|4 2 3", "z y|3 2", "", "x y z"}, {"x y z|1 2 3|1 - 4|4 2 5", "z y|3 2", "", "x y z|1 - 4|4 2 5"},
		{"x|1|1|2", "x|1", "", "x|2"}, {"x|1|1", "x|2|2", "", "x|1|1"},
		{"x|1", "x", "", "x|1"}, {"x", "x|1", "", "x"}, {"|", "|", "", "|"}, {"||", "x|1", "", "||"}, {"x|1", "|", "", "x|1"}, {"", "|", "", ""}, {"", "", "", ""},
		{"x|1", "x|01", "", "x|1"}, {`x|"a"`, `x|"a"@en`, "", `x|"a"`}, {"x|<a>", "x|_:a", "", "x|<a>"},
	} {
		got, e := table.Minus(of(t, c.a), of(t, c.b))
		check(t, c.a+" and "+c.b, got, e, of(t, c.want))
	}
}

// P11.1: what rows make that go together, by a formula and without; those that make nothing alone.
func TestLeft(t *testing.T) {
	const a, b = "x y|1 2|3 -|4 9", "y z|2 4|5 6"
	for _, c := range []two{
		{a, b, "", "x y z|1 2 4|3 2 4|3 5 6|4 9 -"},
		{a, b, "?z > 4", "x y z|1 2 -|3 5 6|4 9 -"}, {a, b, "?z < 5", "x y z|1 2 4|3 2 4|4 9 -"}, {a, b, "?z = ?y + 1", "x y z|1 2 -|3 5 6|4 9 -"}, {a, b, "?x = 3", "x y z|1 2 -|3 2 4|3 5 6|4 9 -"},
		{a, b, "TRUE", "x y z|1 2 4|3 2 4|3 5 6|4 9 -"}, {a, b, "FALSE", "x y z|1 2 -|3 - -|4 9 -"}, {a, b, "1 / 0", "x y z|1 2 -|3 - -|4 9 -"}, {a, b, "?w > 1", "x y z|1 2 -|3 - -|4 9 -"}, {a, b, "! BOUND(?w)", "x y z|1 2 4|3 2 4|3 5 6|4 9 -"}, {a, b, "<a>", "x y z|1 2 -|3 - -|4 9 -"},
		{"x y|1 1|2 2", "y z|1 0|1 2|2 9|2 -", "?x < ?z", "x y z|1 1 2|2 2 9"},
		{"x y|1 -", "y z|- 3|2 3", "BOUND(?y)", "x y z|1 2 3"}, {"x y|1 -", "y z|- 3|2 3", "! BOUND(?y)", "x y z|1 - 3"},
		{"x|1|2", "y|1|2|3", "?x = ?y", "x y|1 1|2 2"}, {"x|1|2", "y|1|2|3", "?x < ?y", "x y|1 2|1 3|2 3"}, {"x|1|2", "y|1|2|3", "?x > ?y + 1", "x y|1 -|2 -"},
		{"x|1|2", "y|<a>|0|-|5", "?x > ?y", "x y|1 0|2 0"}, {"x|<a>|2", "y|1", "?x > ?y", "x y|<a> -|2 1"},
		{"x|1", "y", "", "x y|1 -"}, {"x|1|2", "y|3|4", "", "x y|1 3|1 4|2 3|2 4"}, {"x|1|1", "x|2", "", "x|1|1"}, {"x|1", "x|1|1", "", "x|1|1"}, {"x|1|1", "x y|1 2", "", "x y|1 2|1 2"},
		{"x|1", "x|-", "", "x|1"}, {"x|-", "x|1|2", "", "x|1|2"}, {"x|-", "x|-", "", "x|-"}, {"x|-", "x y|1 2", "?x = 2", "x y|- -"},
		{"x y|1 2", "z y x|3 2 1|4 1 2", "", "x y z|1 2 3"}, {"x y|1 2|2 1|2 2", "z y x|3 2 1|4 1 2", "?z > ?x + ?y", "x y z|1 2 -|2 1 4|2 2 -"},
		{"|", "x", "", "x|-"}, {"|", "x|1|2", "", "x|1|2"}, {"|", "x|1|2", "?x > 1", "x|2"}, {"x|1", "", "", "x|1"}, {"x|1", "|", "FALSE", "x|1"}, {"x|1", "||", "", "x|1|1"}, {"x", "y|1", "", "x y"}, {"", "|", "", ""}, {"|", "", "", "|"}, {"|", "|", "TRUE", "|"}, {"|", "|", "FALSE", "|"}, {"||", "||", "TRUE", "||||"}, {"||", "||", "FALSE", "||"}, {"", "", "", ""},
	} {
		got, e := table.Left(of(t, c.a), of(t, c.b), parts(t, c.by))
		check(t, c.a+" and "+c.b+" by "+c.by, got, e, of(t, c.want))
	}
	got, e := table.Left(of(t, a), of(t, b), []api.Part{})
	check(t, "without parts", got, e, of(t, "x y z|1 2 4|3 2 4|3 5 6|4 9 -"))
}

// P11.1: the rows for which a formula holds.
func TestFilter(t *testing.T) {
	const a = "x y|1 2|3 -|4 9|1 2"
	for _, c := range []two{
		{a, "", "BOUND(?y)", "x y|1 2|4 9|1 2"}, {a, "", "! BOUND(?y)", "x y|3 -"}, {a, "", "?y > 5", "x y|4 9"}, {a, "", "?y < 5", "x y|1 2|1 2"}, {a, "", "! ( ?y > 5 )", "x y|1 2|1 2"}, {a, "", "?y > 5 || TRUE", a}, {a, "", "?w = 1", "x y"}, {a, "", "TRUE", a}, {a, "", "FALSE", "x y"}, {a, "", "1 / 0", "x y"}, {a, "", `"a"`, a}, {a, "", `""`, "x y"},
		{`x|0|1|-|<a>|"a"|""|_:a`, "", "?x", `x|1|"a"`}, {`x|0|1|-|<a>|_:a`, "", "ISIRI(?x) || ISBLANK(?x)", "x|<a>|_:a"}, {"y x|1 2|2 1", "", "?x < ?y", "y x|2 1"},
		{"x|1|1|2", "", "?x = 1", "x|1|1"}, {"x", "", "TRUE", "x"}, {"|", "", "TRUE", "|"}, {"||", "", "FALSE", ""}, {"", "", "TRUE", ""}, {"|", "", "BOUND(?x)", ""},
	} {
		got, e := table.Filter(of(t, c.a), parts(t, c.by))
		check(t, c.a+" by "+c.by, got, e, of(t, c.want))
	}
}

// P11.1: one more variable, the last one: what a formula comes to, None where that is an error.
func TestExtend(t *testing.T) {
	const a = "x y|1 2|3 -|4 9|1 2"
	for _, c := range []two{
		{a, "w", "?y", "x y w|1 2 2|3 - -|4 9 9|1 2 2"}, {a, "a", "?x + ?y", "x y a|1 2 3|3 - -|4 9 13|1 2 3"}, {a, "X", "<a>", "x y X|1 2 <a>|3 - <a>|4 9 <a>|1 2 <a>"}, {a, "w", "1 / 0", "x y w|1 2 -|3 - -|4 9 -|1 2 -"}, {a, "w", "?w", "x y w|1 2 -|3 - -|4 9 -|1 2 -"}, {a, "w", `IF(BOUND(?w),"a","b"@en)`, `x y w|1 2 "b"@en|3 - "b"@en|4 9 "b"@en|1 2 "b"@en`}, {a, "w", "COALESCE(?y,?x)", "x y w|1 2 2|3 - 3|4 9 9|1 2 2"},
		{"x|999999999|1", "y", "?x + 1", "x y|999999999 -|1 2"}, {`x|_:b|<a>|"a"@en|-`, "y", "?x", `x y|_:b _:b|<a> <a>|"a"@en "a"@en|- -`}, {`x|<a>|_:b|"a"@en`, "y", "STR(?x)", `x y|<a> "a"|_:b -|"a"@en "a"`}, {"x|1", "y1_", "?x = 1", `x y1_|1 "true"^^<` + api.TypeBoolean + ">"},
		{"|", "w", "1", "w|1"}, {"||", "w", "?w", "w|-|-"}, {"", "w", "1", "w"}, {"x", "w", "1", "x w"},
	} {
		got, e := table.Extend(of(t, c.a), c.b, parts(t, c.by))
		check(t, c.a+" and "+c.b+" by "+c.by, got, e, of(t, c.want))
	}
}

// someVars are variables of two tables: none, some alone, some shared, in one order and in another.
func someVars() [][2][]string {
	x, y, xy, yx, yz := []string{"x"}, []string{"y"}, []string{"x", "y"}, []string{"y", "x"}, []string{"y", "z"}
	return [][2][]string{{nil, nil}, {nil, x}, {x, nil}, {x, x}, {x, y}, {x, xy}, {xy, x}, {xy, y}, {y, xy}, {xy, xy}, {xy, yx}, {xy, yz}, {yz, xy}}
}

// small tells all tables of some variables, of at most two rows.
func small(vars []string) []api.Table {
	rows := [][]api.Term{nil}
	for range vars {
		var longer [][]api.Term
		for _, row := range rows {
			for _, x := range []api.Term{{}, integer("1"), integer("2")} {
				longer = append(longer, append(slices.Clone(row), x))
			}
		}
		rows = longer
	}
	l := []api.Table{{Vars: vars}}
	for _, r := range rows {
		l = append(l, api.Table{Vars: vars, Rows: [][]api.Term{r}})
		for _, s := range rows {
			l = append(l, api.Table{Vars: vars, Rows: [][]api.Term{r, s}})
		}
	}
	return l
}

// P11.1: each two small tables, held against the chapter's words.
func TestEachTwo(t *testing.T) {
	f := parts(t, "?x < 2 || ?z = 1")
	for _, v := range someVars() {
		for _, a := range small(v[0]) {
			for _, b := range small(v[1]) {
				checkTwo(t, a, b, f)
			}
		}
	}
}

// P11.1: grown tables, held against the chapter's words.
func TestGrown(t *testing.T) {
	r := rand.New(rand.NewPCG(11, 1))
	terms, formulas := someTerms(), someFormulas(t)
	names := []string{"x", "y", "z", "w", "v"}
	few := []api.Term{{}, integer("1"), integer("2"), integer("3"), iri("a")}
	for i := range 6000 {
		l := terms
		if i%2 == 0 {
			l = few
		}
		a, b, f := grown(r, names, 9, l), grown(r, names, 9, l), formulas[r.IntN(len(formulas))]
		checkTwo(t, a, b, f)
		got, e := table.Filter(a, f)
		check(t, "Filter", got, e, plainFilter(plainOf(a), f).table(), a)
		got, e = table.Extend(a, "more", f)
		check(t, "Extend", got, e, plainExtend(plainOf(a), "more", f).table(), a)
	}
}
