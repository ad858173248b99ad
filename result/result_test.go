package result_test

import (
	"math"
	"strconv"
	"strings"
	"testing"

	"legation/api"
	"legation/result"
)

// P17.1, P17.2: the chapter's example.
func TestExample(t *testing.T) {
	puts(t, tabled(7, "x y", row(iri("a"), api.Term{})), "7\nrows\n?x\t?y\n<a>\t\n")
}

// P17.1, P17.2: tables with terms of each kind that they may hold, and with None in each column.
func TestTables(t *testing.T) {
	a, none := iri("a"), api.Term{}
	for b, r := range map[string]api.Reply{
		"0\nrows\n?x\n<a>\n":                   tabled(0, "x", row(a)),
		"1\nrows\n?x\n_:b\n":                   tabled(1, "x", row(blank("b"))),
		"2\nrows\n?x\n\"c\"\n":                 tabled(2, "x", row(literal("c"))),
		"3\nrows\n?x\n\"1\"^^<t>\n":            tabled(3, "x", row(typed("1", "t"))),
		"4\nrows\n?x\n\"d\"@en\n":              tabled(4, "x", row(tagged("d", "en"))),
		"5\nrows\n?x\n\n":                      tabled(5, "x", row(none)),
		"6\nrows\n?x\n\n\n\n":                  tabled(6, "x", row(none), row(none), row(none)),
		"7\nrows\n?x\n\n<a>\n\n":               tabled(7, "x", row(none), row(a), row(none)),
		"8\nrows\n?x\n\"\"\n":                  tabled(8, "x", row(literal(""))),
		"9\nrows\n?x\n\"\"@e\n\"\"^^<t>\n":     tabled(9, "x", row(tagged("", "e")), row(typed("", "t"))),
		"10\nrows\n?x\t?y\n<a>\t_:a\n":         tabled(10, "x y", row(a, blank("a"))),
		"11\nrows\n?y\t?x\n\"a\"\t<a>\n":       tabled(11, "y x", row(literal("a"), a)),
		"12\nrows\n?x\t?y\n\t<a>\n<a>\t\n\t\n": tabled(12, "x y", row(none, a), row(a, none), row(none, none)),
		"13\nrows\n?x\t?y\t?z\n\t<a>\t<a>\n<a>\t\t<a>\n<a>\t<a>\t\n\t\t\n<a>\t\t\n\t<a>\t\n\t\t<a>\n": tabled(13, "x y z", row(none, a, a), row(a, none, a), row(a, a, none), row(none, none, none), row(a, none, none), row(none, a, none), row(none, none, a)),
		"14\nrows\n?x\n<a>\n<a>\n":                          tabled(14, "x", row(a), row(a)),
		"15\nrows\n?X_1\t?x1\t?X\n<?x>\t<_:a>\t<a/b?c#d>\n": tabled(15, "X_1 x1 X", row(iri("?x"), iri("_:a"), iri("a/b?c#d"))),
	} {
		puts(t, r, b)
	}
}

// P17.1, P17.2: tables without variables, without rows, without both.
func TestEmptyTables(t *testing.T) {
	puts(t, tabled(0, ""), "0\nrows\n\n")
	puts(t, tabled(0, "", row()), "0\nrows\n\n\n")
	puts(t, tabled(0, "", row(), nil, row()), "0\nrows\n\n\n\n\n")
	puts(t, tabled(0, "x"), "0\nrows\n?x\n")
	puts(t, tabled(0, "x y"), "0\nrows\n?x\t?y\n")
	puts(t, api.Reply{Kind: api.RTable, Table: api.Table{Vars: []string{}, Rows: [][]api.Term{{}}}}, "0\nrows\n\n\n")
	puts(t, api.Reply{Kind: api.RTable, Table: api.Table{Vars: []string{}, Rows: [][]api.Term{}}}, "0\nrows\n\n")
	for _, r := range []api.Reply{truth(1, true), truth(1, false), failed(1, 3)} {
		r.Table = api.Table{Vars: []string{}, Rows: [][]api.Term{}}
		puts(t, r, plainPut(r)) // lists without elements are nil's like
	}
}

// P17.1, P17.2: truths.
func TestTruths(t *testing.T) {
	for _, id := range []int{0, 1, 10, 999, 4095} {
		puts(t, truth(id, true), strconv.Itoa(id)+"\ntrue\n")
		puts(t, truth(id, false), strconv.Itoa(id)+"\nfalse\n")
	}
}

// P17.1, P17.2: each error that may be, and those that may not.
func TestErrors(t *testing.T) {
	for n := 1; n <= 9; n++ {
		puts(t, failed(n, api.Errno(n)), strconv.Itoa(n)+"\nerror "+strconv.Itoa(n)+"\n")
	}
	for _, n := range []int{0, 10, -1, -9, 11, 19, 99, 100, 257, 1<<32 + 1, math.MaxInt, math.MinInt} {
		unput(t, failed(1, api.Errno(n)), api.ErrRange)
		ungot(t, "1\nerror "+strconv.Itoa(n)+"\n", api.ErrForm)
	}
}

// P17.1, P17.2: each Id that may be, those on the edges that may not.
func TestIds(t *testing.T) {
	for id := range 4096 {
		puts(t, tabled(id, "x", row(iri("a"))), strconv.Itoa(id)+"\nrows\n?x\n<a>\n")
	}
	for _, id := range append(numbers(), math.MinInt32, math.MaxInt32, -7, -4095) {
		for _, r := range []api.Reply{tabled(id, "x"), truth(id, true), truth(id, false), failed(id, 5)} {
			if isId(id) {
				puts(t, r, plainPut(r))
				continue
			}
			unput(t, r, api.ErrRange)
			ungot(t, plainPut(r), api.ErrForm)
		}
	}
}

// P17.1: Kinds that are none.
func TestKinds(t *testing.T) {
	for _, kind := range []int{0, 4, -1, 5, -2, -3, 1<<32 + 1, math.MaxInt, math.MinInt} {
		for _, r := range []api.Reply{{}, tabled(1, "x", row(iri("a"))), truth(1, true), failed(1, 5)} {
			r.Kind = kind
			unput(t, r, api.ErrRange)
		}
	}
}

// P17.2: each byte that a literal may have, as layer 1 writes it.
func TestBytesOfTexts(t *testing.T) {
	for i := range 256 {
		for _, text := range []string{string([]byte{byte(i)}), string([]byte{'a', byte(i), byte(i), 'n'})} {
			for _, x := range []api.Term{literal(text), tagged(text, "en"), typed(text, "t"), iri(text), typed("", text)} {
				r := tabled(i, "x y", row(x, api.Term{}), row(api.Term{}, x))
				if plainCheck(r) == api.OK {
					puts(t, r, plainPut(r))
				} else {
					unput(t, r, api.ErrForm)
				}
			}
		}
	}
	puts(t, tabled(1, "x y", row(literal("a\tb\n"), literal("\"\\"))), "1\nrows\n?x\t?y\n\"a\\tb\\n\"\t\"\\\"\\\\\"\n")
	puts(t, tabled(1, "x", row(literal("\\n")), row(literal("\\\n"))), "1\nrows\n?x\n\"\\\\n\"\n\"\\\\\\n\"\n")
}

// P17.1: of RTable a table that may not be.
func TestWrongTables(t *testing.T) {
	a := iri("a")
	for _, names := range [][]string{
		{""}, {"?x"}, {"1"}, {"_a"}, {"x "}, {"x y"}, {"x\ty"}, {"x\n"}, {"é"}, {"\xff"}, {"x", "x"}, {"x", "y", "x"}, {"x", ""}, {strings.Repeat("n", 33)}, {"x", strings.Repeat("n", 1<<20)},
	} {
		for rows := range 3 {
			r := api.Reply{Kind: api.RTable, Table: api.Table{Vars: names}}
			for range rows {
				r.Table.Rows = append(r.Table.Rows, make([]api.Term, len(names)))
			}
			unput(t, r, api.ErrForm)
		}
	}
	for _, wrong := range [][]api.Term{
		nil, {}, {a, a}, {a, {}}, {{}, {}}, {variable("x")}, {variable("y")}, {iri("")}, {iri("a b")}, {iri("é")}, {iri("<a>")}, {blank("")}, {blank("1")}, {blank("_:a")}, {literal("é")}, {literal("\x00")}, {literal("\r")}, {literal("\xff")}, {typed("1", "a b")}, {tagged("1", "EN")}, {tagged("1", "abcdefghi")},
		{{Kind: api.Literal, Type: "t", Lang: "en"}}, {{Text: "a"}}, {{Type: "t"}}, {{Lang: "en"}}, {{Kind: 5, Text: "a"}}, {{Kind: -1}}, {{Kind: api.Iri, Text: "a", Type: "t"}}, {{Kind: api.Iri, Text: "a", Lang: "en"}}, {{Kind: api.Blank, Text: "a", Lang: "en"}}, {iri(strings.Repeat("a", 4097))}, {literal(strings.Repeat("a", 4097))},
	} {
		unput(t, tabled(1, "x", wrong), api.ErrForm)
		unput(t, tabled(1, "x", row(a), wrong), api.ErrForm)
		unput(t, tabled(1, "x", wrong, row(a)), api.ErrForm)
		unput(t, tabled(1, "x", row(a), wrong, row(a)), api.ErrForm)
	}
	unput(t, tabled(1, "", row(a)), api.ErrForm)
	unput(t, tabled(1, "", row(api.Term{})), api.ErrForm)
	unput(t, tabled(1, "", row(), row(api.Term{})), api.ErrForm)
	unput(t, tabled(1, "x y", row(a)), api.ErrForm)
}

// P17.1: what is of another Kind is zero.
func TestOthersFields(t *testing.T) {
	tables := []api.Table{{Vars: []string{"x"}}, {Rows: [][]api.Term{nil}}, {Vars: []string{"x"}, Rows: column(1, iri("a"))}, {Vars: []string{""}}, {Rows: column(5000, variable("x"))}, {Rows: make([][]api.Term, 1025)}}
	for _, x := range tables {
		for _, r := range []api.Reply{truth(1, true), truth(1, false), failed(1, 5)} {
			r.Table = x
			unput(t, r, api.ErrForm)
		}
	}
	for _, e := range []api.Errno{1, 5, 9, 10, -1, math.MaxInt, math.MinInt} {
		for _, r := range []api.Reply{truth(1, true), truth(1, false), tabled(1, "x"), tabled(1, "", row()), tabled(1, "x", column(1025, iri("a"))...)} {
			r.Err = e
			unput(t, r, api.ErrForm)
		}
	}
	for _, r := range []api.Reply{tabled(1, "x"), tabled(1, "", row()), failed(1, 1), failed(1, 9), tabled(1, "x", column(1025, iri("a"))...)} {
		r.Truth = true
		unput(t, r, api.ErrForm)
	}
}

// P17.1: which error is told where several are there: ErrRange, then ErrForm, then ErrLong.
func TestWhichError(t *testing.T) {
	many := column(1025, iri("a"))
	one := tabled(1, "x", append(column(1025, iri("a")), row(variable("x")))...)
	unput(t, one, api.ErrForm)
	for _, bad := range []api.Reply{tabled(1, "x x", many...), tabled(1, "x y", many...), tabled(1, "", many...), one, tabled(1, "x", many...), tabled(1, "x", row())} {
		for _, id := range []int{-1, 4096} {
			r := bad
			r.Id = id
			unput(t, r, api.ErrRange)
			r.Truth = true
			unput(t, r, api.ErrRange)
		}
		for _, kind := range []int{0, 4} {
			r := bad
			r.Kind = kind
			unput(t, r, api.ErrRange)
		}
		for _, e := range []api.Errno{0, 10} {
			r := bad
			r.Kind, r.Err = api.RError, e
			unput(t, r, api.ErrRange)
			r.Truth = true
			unput(t, r, api.ErrRange)
		}
	}
	for _, kind := range []int{api.RTable, api.RTruth} { // an Err out of range is of the range of RError's alone
		unput(t, api.Reply{Kind: kind, Err: 10}, api.ErrForm)
	}
	unput(t, api.Reply{Id: -1, Kind: 4, Err: 10, Truth: true}, api.ErrRange)
}

// P17.1: the reply of which all is zero is of no Kind.
func TestZero(t *testing.T) {
	unput(t, api.Reply{}, api.ErrRange)
	if !result.Same(api.Reply{}, api.Reply{}) {
		t.Error("not the same")
	}
}
