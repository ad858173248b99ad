package group_test

import (
	"math/rand/v2"
	"slices"
	"strconv"
	"strings"
	"testing"

	"legation/api"
	"legation/group"
)

// P13.2: groups in the order of their first rows, and what is counted of each.
func TestGroup(t *testing.T) {
	const a = "x y z|<a> 1 -|<b> 2 <p>|<a> 3 <p>|- 4 <q>|<b> - <p>|- 1.5 -|<a> 1 -"
	for _, c := range []struct{ of, by, aggs, want string }{
		{"x y|<a> 1|<b> 2|<a> 3", "x", "sum y s", "x s|<a> 4|<b> 2"}, // the chapter's example
		{a, "x", "count * c", "x c|<a> 3|<b> 2|- 2"},
		{a, "x", "count y c", "x c|<a> 3|<b> 1|- 2"},
		{a, "x", "count z c", "x c|<a> 1|<b> 2|- 1"},
		{a, "x", "sum y s", "x s|<a> 5|<b> 2|- 5.5"},
		{a, "x", "min y m max y k", "x m k|<a> 1 3|<b> 2 2|- 1.5 4"},
		{a, "z", "count * c count z d min z m max z k", "z c d m k|- 3 0 - -|<p> 3 3 <p> <p>|<q> 1 1 <q> <q>"},
		{a, "x z", "count * c", "x z c|<a> - 2|<b> <p> 2|<a> <p> 1|- <q> 1|- - 1"},
		{a, "z x", "count * c", "z x c|- <a> 2|<p> <b> 2|<p> <a> 1|<q> - 1|- - 1"},
		{a, "z x", "max y k count y c", "z x k c|- <a> 1 2|<p> <b> 2 1|<p> <a> 3 1|<q> - 4 1|- - 1.5 1"},
		{a, "y", "sum y s", "y s|1 2|2 2|3 3|4 4|- 0|1.5 1.5"},
		{a, "y z x", "count * c", "y z x c|1 - <a> 2|2 <p> <b> 1|3 <p> <a> 1|4 <q> - 1|- <p> <b> 1|1.5 - - 1"},
		{a, "x y z", "", "x y z|<a> 1 -|<b> 2 <p>|<a> 3 <p>|- 4 <q>|<b> - <p>|- 1.5 -"},
		{a, "z", "", "z|-|<p>|<q>"},
		{a, "x", "count * y1 count x y2 sum x y3 min x y4 max x y5", "x y1 y2 y3 y4 y5|<a> 3 3 - <a> <a>|<b> 2 2 - <b> <b>|- 2 0 0 - -"},
		{a, "", "count * c", "c|7"},
		{a, "", "count y c sum y s min y m max y k count x d sum x t", "c s m k d t|6 12.5 1 4 5 -"},
		{a, "", "", "|"},
		{"x y", "x", "count * c", "x c"}, {"x y", "x y", "", "x y"}, {"x y", "y x", "sum y s min x m", "y x s m"},
		{"x y", "", "count * c count x d sum x s min x m max y k", "c d s m k|0 0 0 - -"}, {"x y", "", "", "|"}, {"x", "", "count * c", "c|0"},
		{"", "", "", "|"}, {"", "", "count * c", "c|0"}, {"|", "", "", "|"}, {"|", "", "count * c", "c|1"}, {"|||", "", "count * c count * d", "c d|3 3"},
		{"x y|- -|- -|- 1|- -", "x", "count * c count y d count x e sum y s", "x c d e s|- 4 1 0 1"}, {"x y|- -|- -|- 1|- -", "x y", "count * c", "x y c|- - 3|- 1 1"},
		{"x|1|01|1.0|\"1\"|1|\"1\"@en|<a>|_:a|\"a\"|01", "x", "count * c sum x s", "x c s|1 2 2|01 2 2|1.0 1 1.0|\"1\" 1 -|\"1\"@en 1 -|<a> 1 -|_:a 1 -|\"a\" 1 -"},
	} {
		got, e := group.Group(of(t, c.of), strings.Fields(c.by), aggs(t, c.aggs))
		check(t, "Group by "+c.by+" of "+c.aggs, got, e, of(t, c.want), of(t, c.of))
	}
}

// P13.2: what each aggregate comes to of a column, and in a group of one column's rows among others.
func TestAggregates(t *testing.T) {
	for _, c := range [][5]string{ // the column, then what count, sum, min and max come to
		{"", "0", "0", "-", "-"}, {"-", "0", "0", "-", "-"}, {"- - -", "0", "0", "-", "-"},
		{"1", "1", "1", "1", "1"}, {"1 2 3", "3", "6", "1", "3"}, {"3 - 1 - 2", "3", "6", "1", "3"}, {"2 2 2", "3", "6", "2", "2"}, {"- -5", "1", "-5", "-5", "-5"}, {"-5 5", "2", "0", "-5", "5"}, {"10 9", "2", "19", "9", "10"}, {"007 07", "2", "14", "007", "07"},
		{"1.5", "1", "1.5", "1.5", "1.5"}, {"1.5 1.5", "2", "3.0", "1.5", "1.5"}, {"1.5 2", "2", "3.5", "1.5", "2"}, {"2 -2.0", "2", "0.0", "-2.0", "2"}, {".5 0.50", "2", "1.0", ".5", "0.50"}, {"0.0001 0.9999 1", "3", "2.0", "0.0001", "1"}, {"1 1.0", "2", "2.0", "1", "1.0"}, {"1.0 1 01", "3", "3.0", "01", "1.0"}, {"0.0", "1", "0.0", "0.0", "0.0"}, {"-0.5 -1", "2", "-1.5", "-1", "-0.5"},
		{"999999999", "1", "999999999", "999999999", "999999999"}, {"999999999 0", "2", "999999999", "0", "999999999"}, {"999999998 1", "2", "999999999", "1", "999999998"}, {"999999999 1", "2", "-", "1", "999999999"}, {"-999999999 -1", "2", "-", "-999999999", "-1"}, {"-999999999 1", "2", "-999999998", "-999999999", "1"}, {"99999.9999 0.0001", "2", "100000.0", "0.0001", "99999.9999"}, {"99999.9999 0.0002", "2", "-", "0.0002", "99999.9999"}, {"999999999 0.1", "2", "-", "0.1", "999999999"}, {"100000 0.0001", "2", "-", "0.0001", "100000"},
		{"999999999 1 -1", "3", "-", "-1", "999999999"}, {"999999999 -1 1", "3", "999999999", "-1", "999999999"}, {"-1 999999999 1", "3", "999999999", "-1", "999999999"}, {"-999999999 -1 1", "3", "-", "-999999999", "1"}, {"100000 0.0001 -0.0001", "3", "-", "-0.0001", "100000"}, {"-0.0001 100000 0.0001", "3", "100000.0", "-0.0001", "100000"}, {"0.0001 -0.0001 100000", "3", "100000.0", "-0.0001", "100000"},
		{"<a>", "1", "-", "<a>", "<a>"}, {"1 <a> 2", "3", "-", "<a>", "2"}, {"_:b 1", "2", "-", "_:b", "1"}, {`1 "2"`, "2", "-", "1", `"2"`}, {`"1"@en "1"`, "2", "-", `"1"`, `"1"@en`}, {`- "true"^^<t> -`, "1", "-", `"true"^^<t>`, `"true"^^<t>`},
		{`"1"^^<http://www.w3.org/2001/XMLSchema#string> 5`, "2", "-", "5", `"1"^^<http://www.w3.org/2001/XMLSchema#string>`}, {"1000000000 5", "2", "-", "5", "1000000000"}, {"1. 5", "2", "-", "5", "1."}, {"0.00001 5", "2", "-", "5", "0.00001"}, {"1000000000 999999999 1", "3", "-", "1", "1000000000"}, {"5 - -", "1", "5", "5", "5"},
		{`"b" <b> _:b 9 10 - "a" <a> _:a 11`, "9", "-", "_:a", `"b"`}, {"<b> _:b <a>", "3", "-", "_:b", "<b>"}, {"<b> 1 <c>", "3", "-", "<b>", "1"}, {`1 "" 2`, "3", "-", "1", `""`}, {"<10> <9>", "2", "-", "<10>", "<9>"}, {`"10" "9"`, "2", "-", `"10"`, `"9"`},
	} {
		a := api.Table{Vars: []string{"g", "x"}}
		for _, word := range strings.Fields(c[0]) {
			a.Rows = append(a.Rows, []api.Term{{}, cell(t, word)})
		}
		l := aggs(t, "count x c sum x s min x m max x k count * n")
		want := []api.Term{cell(t, c[1]), cell(t, c[2]), cell(t, c[3]), cell(t, c[4]), integer(strconv.Itoa(len(a.Rows)))}
		for i, agg := range l {
			if got, e := group.Of(a, agg); got != want[i] || e != api.OK {
				t.Errorf("%s of %q: %s, %d; not %s", agg.Name, c[0], word(got), e, word(want[i]))
			}
		}
		got, e := group.Group(a, nil, l)
		check(t, "Group", got, e, api.Table{Vars: []string{"c", "s", "m", "k", "n"}, Rows: [][]api.Term{want}}, a)
		mixed := api.Table{Vars: a.Vars, Rows: [][]api.Term{{iri("g"), integer("-7")}}}
		for _, row := range a.Rows {
			mixed.Rows = append(mixed.Rows, row, []api.Term{iri("g"), literal("~")})
		}
		if got, e = group.Group(mixed, []string{"g"}, l); len(a.Rows) > 0 && (e != api.OK || len(got.Rows) != 2 || !slices.Equal(got.Rows[1][1:], want)) {
			t.Errorf("among others, of %q: %s, %d", c[0], written(got), e)
		}
	}
}

// P13.2: least and greatest terms of each two of the terms that rise, whichever row comes first, and of all of them.
func TestLeastAndGreatest(t *testing.T) {
	l := rising()
	column := func(terms ...api.Term) api.Table {
		a := api.Table{Vars: []string{"x"}}
		for _, x := range terms {
			a.Rows = append(a.Rows, []api.Term{x})
		}
		return a
	}
	hold := func(a api.Table, kind int, want api.Term) {
		t.Helper()
		if got, e := group.Of(a, api.Agg{Kind: kind, Over: "x", Name: "n"}); got != want || e != api.OK {
			t.Fatalf("%d of %s: %s, %d; not %s", kind, written(a), word(got), e, word(want))
		}
	}
	for i, x := range l {
		for _, y := range l[:i] {
			least := y
			if y == (api.Term{}) {
				least = x
			}
			for _, a := range []api.Table{column(x, y), column(y, x), column(y, x, y, x)} {
				hold(a, api.AMin, least)
				hold(a, api.AMax, x)
			}
		}
	}
	r := rand.New(rand.NewPCG(13, 20))
	for range 200 {
		a := shuffled(r, column(l...))
		hold(a, api.AMin, l[1])
		hold(a, api.AMax, l[len(l)-1])
	}
}

// P13.2: groups of grown tables, as the tests' own reading has them.
func TestGroupGrown(t *testing.T) {
	someTables(1, func(r *rand.Rand, a api.Table, by []string) {
		l := someAggs(r, a.Vars)
		got, e := group.Group(a, by, l)
		check(t, "Group by "+strings.Join(by, " "), got, e, plainGroup(a, by, l), a)
		for _, agg := range l {
			if got, e := group.Of(a, agg); got != plainOf(agg, a.Vars, a.Rows) || e != api.OK {
				t.Fatalf("%v of %s: %s, %d", agg, written(a), word(got), e)
			}
		}
		if group.Check(a, by, l) != api.OK {
			t.Fatalf("Check of %s", written(a))
		}
	})
}

// alike are right terms whose texts, or whose texts side by side, could be taken for each other's: each two of the first ones differ in Kind, Text, Type or Lang alone.
func alike() []api.Term {
	return []api.Term{
		{}, iri("a"), blank("a"), literal("a"), tagged("a", "en"), tagged("a", "de"), typed("a", "en"), typed("a", "de"), typed("a", "t"), literal("A"), literal(""), literal("ab"), integer("1"), literal("1"), integer("01"), decimal("1.0"), literal("11"),
		literal(" "), literal("\t"), literal("\n"), literal(`"`), literal(`\`), literal(`\n`), literal(`\t`), literal(`\"`), literal(`\\`), literal("a "), literal(" a"), literal("a a"), literal("a\na"), literal("a\ta"), literal("<a>"), literal("_:a"), literal(`"a"`), literal(`a"@en`), literal(`a"^^<t>`), literal("a\" \"a"), literal("a\"\n\"a"), literal("-"), literal("0"), literal("0 1"), literal("1 0"), iri("0"), iri("1"),
	}
}

// combined tells the table of all rows of these terms.
func combined(vars []string, terms []api.Term) api.Table {
	a := api.Table{Vars: vars, Rows: [][]api.Term{nil}}
	for range vars {
		var longer [][]api.Term
		for _, row := range a.Rows {
			for _, x := range terms {
				longer = append(longer, append(slices.Clone(row), x))
			}
		}
		a.Rows = longer
	}
	return a
}

// withCount tells a table's rows with one more column: a count.
func withCount(a api.Table, name string, n int) api.Table {
	b := api.Table{Vars: append(slices.Clone(a.Vars), name)}
	for _, row := range a.Rows {
		b.Rows = append(b.Rows, append(slices.Clone(row), integer(strconv.Itoa(n))))
	}
	return b
}

// P13.2: rows that differ in one term alone, whatever that is, stand in two groups, and each finds its own again.
func TestGroupAlike(t *testing.T) {
	l := alike()
	for _, a := range []api.Table{combined([]string{"x"}, l), combined([]string{"x", "y"}, l), combined([]string{"x", "y", "z"}, l[:15]), combined([]string{"x", "y", "z"}, l[15:30]), combined([]string{"x", "y", "z"}, l[30:]), combined(columns("v", 6), l[:4])} {
		count := counts("c", 1)
		got, e := group.Group(a, a.Vars, count)
		check(t, "Group", got, e, withCount(a, "c0", 1), a)
		half := api.Table{Vars: a.Vars, Rows: a.Rows[:len(a.Rows)/2]}
		back := slices.Clone(half.Rows)
		slices.Reverse(back)
		twice := api.Table{Vars: a.Vars, Rows: slices.Concat(half.Rows, back)}
		got, e = group.Group(twice, a.Vars, count)
		check(t, "Group", got, e, withCount(half, "c0", 2), twice)
		first, last := a.Vars[:1], a.Vars[len(a.Vars)-1:]
		for _, by := range [][]string{first, last} {
			got, e = group.Group(a, by, count)
			check(t, "Group", got, e, plainGroup(a, by, count), a)
		}
	}
}

// P13.2: MaxRows rows: one group, a group each, and many groups of rows that lie apart.
func TestGroupMost(t *testing.T) {
	l := aggs(t, "count * c count x d min x m max x k")
	a := sized([]string{"x", "y"}, api.MaxRows, 0)
	last := strconv.Itoa(api.MaxRows - 1)
	got, e := group.Group(a, nil, l)
	check(t, "Group", got, e, of(t, "c d m k|4096 4096 0 "+last), a)
	got, e = group.Group(a, []string{"y", "x"}, counts("c", 1))
	check(t, "Group", got, e, withCount(sized([]string{"y", "x"}, api.MaxRows, 0), "c0", 1), a)
	for i := range a.Rows {
		a.Rows[i][1] = integer(strconv.Itoa(i % 64))
	}
	got, e = group.Group(a, []string{"y"}, append(l, aggs(t, "sum x s")...))
	want := api.Table{Vars: []string{"y", "c", "d", "m", "k", "s"}}
	for i := range 64 {
		n := func(n int) api.Term { return integer(strconv.Itoa(n)) }
		want.Rows = append(want.Rows, []api.Term{n(i), n(64), n(64), n(i), n(64*63 + i), n(64*63/2*64 + 64*i)})
	}
	check(t, "Group", got, e, want, a)
	none := sized(nil, api.MaxRows, 0)
	got, e = group.Group(none, nil, counts("c", 2))
	check(t, "Group", got, e, of(t, "c0 c1|4096 4096"), none)
	if x, e := group.Of(none, api.Agg{Kind: api.ACount, Name: "c"}); x != integer("4096") || e != api.OK {
		t.Errorf("%s, %d", word(x), e)
	}
}

// P13.2: MaxVars columns, by and aggregates together.
func TestMostColumns(t *testing.T) {
	vars := columns("v", api.MaxVars)
	a := sized(vars, 3, 7)
	for _, n := range []int{0, 1, 16, 31, api.MaxVars} {
		by, l := slices.Clone(vars[:n]), counts("c", api.MaxVars-n)
		slices.Reverse(by)
		for i := range l {
			l[i].Kind, l[i].Over = 1+i%4, vars[i]
		}
		got, e := group.Group(a, by, l)
		check(t, "Group", got, e, plainGroup(a, by, l), a)
	}
	long := strings.Repeat("n", 32)
	got, e := group.Group(api.Table{Vars: []string{long}}, []string{long}, []api.Agg{{Kind: api.ASum, Over: long, Name: strings.Repeat("m", 32)}})
	check(t, "Group", got, e, api.Table{Vars: []string{long, strings.Repeat("m", 32)}}, a)
}

// P13.2: terms as long as may be stand apart by their last byte.
func TestGroupLong(t *testing.T) {
	vars := columns("v", 31)
	text := strings.Repeat(`"`, api.MaxText-1)
	a := api.Table{Vars: vars}
	for i := range 64 {
		a.Rows = append(a.Rows, slices.Repeat([]api.Term{literal(text + "a")}, len(vars)))
		a.Rows[i][30] = literal(text + string(rune('a'+i%8)))
	}
	got, e := group.Group(a, vars, counts("c", 1))
	check(t, "Group", got, e, withCount(api.Table{Vars: vars, Rows: a.Rows[:8]}, "c0", 8), a)
}
