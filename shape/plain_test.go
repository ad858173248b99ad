package shape_test

import (
	"fmt"
	"math/rand/v2"
	"slices"
	"strconv"
	"strings"
	"testing"

	"legation/api"
	"legation/table"
	"legation/term"
)

// Tables are written as texts: the variables, then each row behind a stroke; digits are a literal of TypeInteger, digits with a full stop one of TypeDecimal, a hyphen is None, all else is a term's text without blanks.

func iri(s string) api.Term     { return api.Term{Kind: api.Iri, Text: s} }
func blank(s string) api.Term   { return api.Term{Kind: api.Blank, Text: s} }
func literal(s string) api.Term { return api.Term{Kind: api.Literal, Text: s} }
func variable(s string) api.Term {
	return api.Term{Kind: api.Var, Text: s}
}
func typed(s, of string) api.Term {
	return api.Term{Kind: api.Literal, Text: s, Type: of}
}
func tagged(s, lang string) api.Term {
	return api.Term{Kind: api.Literal, Text: s, Lang: lang}
}
func integer(s string) api.Term { return typed(s, api.TypeInteger) }
func decimal(s string) api.Term { return typed(s, api.TypeDecimal) }

// of tells the table that a text stands for.
func of(t *testing.T, s string) api.Table {
	t.Helper()
	lines := strings.Split(s, "|")
	a := api.Table{Vars: strings.Fields(lines[0])}
	for _, line := range lines[1:] {
		var row []api.Term
		for _, word := range strings.Fields(line) {
			row = append(row, cell(t, word))
		}
		a.Rows = append(a.Rows, row)
	}
	if table.Check(a) != api.OK {
		t.Fatalf("%q", s)
	}
	return a
}

func cell(t *testing.T, word string) api.Term {
	t.Helper()
	switch {
	case word == "-":
		return api.Term{}
	case strings.Trim(word, "0123456789") == "":
		return integer(word)
	case strings.Trim(word, "0123456789.") == "":
		return decimal(word)
	}
	x, e := term.Read(word)
	if e != api.OK {
		t.Fatalf("%q: %d", word, e)
	}
	return x
}

// written tells a table's text, cut short.
func written(a api.Table) string {
	var s strings.Builder
	s.WriteString(strings.Join(a.Vars, " "))
	for _, row := range a.Rows {
		s.WriteString("|")
		for i, x := range row {
			if i > 0 {
				s.WriteString(" ")
			}
			word, _ := term.Text(x)
			switch {
			case x == api.Term{}:
				word = "-"
			case x == integer(x.Text), x == decimal(x.Text):
				word = x.Text
			}
			s.WriteString(word)
		}
	}
	return fmt.Sprintf("%.300s", s.String())
}

// check holds what a call told, of a table, against the table that it should have told.
func check(t *testing.T, what string, got api.Table, e api.Errno, want, of api.Table) {
	t.Helper()
	if e != api.OK || !same(got, want) || table.Check(got) != api.OK {
		t.Fatalf("%s of %s: %s, %d; not %s", what, written(of), written(got), e, written(want))
	}
}

// refused holds that a call told an error and nothing else.
func refused(t *testing.T, what string, got api.Table, e, want api.Errno) {
	t.Helper()
	if e != want || len(got.Vars) > 0 || len(got.Rows) > 0 {
		t.Fatalf("%q: %s, %d; not %d", what, written(got), e, want)
	}
}

// same tells whether two tables are alike, row by row.
func same(a, b api.Table) bool {
	return slices.Equal(a.Vars, b.Vars) && slices.EqualFunc(a.Rows, b.Rows, slices.Equal[[]api.Term])
}

// columns are n variables, whose names begin so.
func columns(begin string, n int) []string {
	var l []string
	for i := range n {
		l = append(l, begin+strconv.Itoa(i))
	}
	return l
}

// sized tells a table of these variables and n rows, each of one number in all columns: from a number on, each one more.
func sized(vars []string, n, from int) api.Table {
	a := api.Table{Vars: vars}
	for i := range n {
		a.Rows = append(a.Rows, slices.Repeat([]api.Term{integer(strconv.Itoa(from + i))}, len(vars)))
	}
	return a
}

// grown tells some table, of some of these names, in any order, and of so many rows at most; some of them stand twice.
func grown(r *rand.Rand, names []string, most int, terms []api.Term) api.Table {
	names = slices.Clone(names)
	r.Shuffle(len(names), func(i, j int) { names[i], names[j] = names[j], names[i] })
	a := api.Table{Vars: names[:r.IntN(len(names)+1)]}
	for range r.IntN(most + 1) {
		var row []api.Term
		for range a.Vars {
			row = append(row, terms[r.IntN(len(terms))])
		}
		if n := len(a.Rows); n > 0 && r.IntN(5) == 0 {
			row = slices.Clone(a.Rows[r.IntN(n)])
		}
		a.Rows = append(a.Rows, row)
	}
	return a
}

// shuffled tells a table with its rows in another order.
func shuffled(r *rand.Rand, a api.Table) api.Table {
	a.Rows = slices.Clone(a.Rows)
	r.Shuffle(len(a.Rows), func(i, j int) { a.Rows[i], a.Rows[j] = a.Rows[j], a.Rows[i] })
	return a
}

// someTables calls f with grown tables: of many unlike terms, and of few.
func someTables(n uint64, f func(r *rand.Rand, a api.Table)) {
	r := rand.New(rand.NewPCG(12, n))
	many := bindable()
	few := []api.Term{{}, integer("1"), integer("01"), decimal("1.0"), integer("2"), literal("1"), iri("a"), blank("a"), tagged("a", "en"), literal("a")}
	for i := range 3000 {
		terms := many
		if i%2 == 0 {
			terms = few
		}
		f(r, grown(r, []string{"x", "y", "z", "w"}, 12, terms))
	}
}
