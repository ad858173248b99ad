package group_test

import (
	"fmt"
	"math/rand/v2"
	"slices"
	"strconv"
	"strings"
	"testing"

	"legation/api"
	"legation/table"
	"legation/term"
)

// Tables are written as texts: the variables, then each row behind a stroke; digits (a hyphen ahead of them, too) are a literal of TypeInteger, those with a full stop one of TypeDecimal, a hyphen alone is None, all else is a term's text without blanks.

func iri(s string) api.Term     { return api.Term{Kind: api.Iri, Text: s} }
func blank(s string) api.Term   { return api.Term{Kind: api.Blank, Text: s} }
func literal(s string) api.Term { return api.Term{Kind: api.Literal, Text: s} }
func typed(s, of string) api.Term {
	return api.Term{Kind: api.Literal, Text: s, Type: of}
}
func tagged(s, lang string) api.Term {
	return api.Term{Kind: api.Literal, Text: s, Lang: lang}
}
func integer(s string) api.Term { return typed(s, api.TypeInteger) }
func decimal(s string) api.Term { return typed(s, api.TypeDecimal) }

// of tells the table that a text stands for.
func of(t *testing.T, s string) api.Table {
	t.Helper()
	lines := strings.Split(s, "|")
	a := api.Table{Vars: strings.Fields(lines[0])}
	for _, line := range lines[1:] {
		var row []api.Term
		for _, word := range strings.Fields(line) {
			row = append(row, cell(t, word))
		}
		a.Rows = append(a.Rows, row)
	}
	if table.Check(a) != api.OK {
		t.Fatalf("%q", s)
	}
	return a
}

func cell(t *testing.T, word string) api.Term {
	t.Helper()
	switch {
	case word == "-":
		return api.Term{}
	case strings.Trim(word, "-0123456789") == "":
		return integer(word)
	case strings.Trim(word, "-0123456789.") == "":
		return decimal(word)
	}
	x, e := term.Read(word)
	if e != api.OK {
		t.Fatalf("%q: %d", word, e)
	}
	return x
}

// aggs tells the aggregates that a text stands for: kind, Over (* is none) and Name of each, between blanks.
func aggs(t *testing.T, s string) []api.Agg {
	t.Helper()
	kinds := map[string]int{"count": api.ACount, "sum": api.ASum, "min": api.AMin, "max": api.AMax}
	var l []api.Agg
	words := strings.Fields(s)
	if len(words)%3 != 0 {
		t.Fatalf("%q", s)
	}
	for i := 0; i < len(words); i += 3 {
		kind := kinds[words[i]]
		if kind == 0 {
			t.Fatalf("%q", s)
		}
		l = append(l, api.Agg{Kind: kind, Over: strings.Trim(words[i+1], "*"), Name: words[i+2]})
	}
	return l
}

// word tells a term as it is written here.
func word(x api.Term) string {
	s, e := term.Text(x)
	switch {
	case x == api.Term{}:
		return "-"
	case e != api.OK:
		return "?!"
	case x == integer(x.Text), x == decimal(x.Text):
		return x.Text
	}
	return s
}

// written tells a table's text, cut short.
func written(a api.Table) string {
	var s strings.Builder
	s.WriteString(strings.Join(a.Vars, " "))
	for _, row := range a.Rows {
		s.WriteString("|")
		for i, x := range row {
			if i > 0 {
				s.WriteString(" ")
			}
			s.WriteString(word(x))
		}
	}
	return fmt.Sprintf("%.300s", s.String())
}

// check holds what a call told, of a table, against the table that it should have told.
func check(t *testing.T, what string, got api.Table, e api.Errno, want, of api.Table) {
	t.Helper()
	if e != api.OK || !same(got, want) || table.Check(got) != api.OK {
		t.Fatalf("%s of %s: %s, %d; not %s", what, written(of), written(got), e, written(want))
	}
}

// same tells whether two tables are alike, row by row.
func same(a, b api.Table) bool {
	return slices.Equal(a.Vars, b.Vars) && slices.EqualFunc(a.Rows, b.Rows, slices.Equal[[]api.Term])
}

// columns are n names that begin so.
func columns(begin string, n int) []string {
	var l []string
	for i := range n {
		l = append(l, begin+strconv.Itoa(i))
	}
	return l
}

// counts are n counts of rows, whose names begin so.
func counts(begin string, n int) []api.Agg {
	var l []api.Agg
	for _, name := range columns(begin, n) {
		l = append(l, api.Agg{Kind: api.ACount, Name: name})
	}
	return l
}

// sized tells a table of these variables and n rows, each of one number in all columns: from a number on, each one more.
func sized(vars []string, n, from int) api.Table {
	a := api.Table{Vars: vars}
	for i := range n {
		a.Rows = append(a.Rows, slices.Repeat([]api.Term{integer(strconv.Itoa(from + i))}, len(vars)))
	}
	return a
}

// grown tells some table, of some of these names, in any order, and of so many rows at most; some of them stand twice.
func grown(r *rand.Rand, names []string, most int, terms []api.Term) api.Table {
	names = some(r, names)
	a := api.Table{Vars: names}
	for range r.IntN(most + 1) {
		var row []api.Term
		for range a.Vars {
			row = append(row, terms[r.IntN(len(terms))])
		}
		if n := len(a.Rows); n > 0 && r.IntN(5) == 0 {
			row = slices.Clone(a.Rows[r.IntN(n)])
		}
		a.Rows = append(a.Rows, row)
	}
	return a
}

// some tells some of a list's elements, in any order.
func some[T any](r *rand.Rand, l []T) []T {
	l = slices.Clone(l)
	r.Shuffle(len(l), func(i, j int) { l[i], l[j] = l[j], l[i] })
	return l[:r.IntN(len(l)+1)]
}

// someAggs tells some aggregates over a table's variables.
func someAggs(r *rand.Rand, vars []string) []api.Agg {
	var l []api.Agg
	for i := range r.IntN(6) {
		a := api.Agg{Kind: api.ACount, Name: "n" + strconv.Itoa(i)}
		if len(vars) > 0 && r.IntN(6) > 0 {
			a.Kind, a.Over = 1+r.IntN(4), vars[r.IntN(len(vars))]
		}
		l = append(l, a)
	}
	return l
}

// shuffled tells a table with its rows in another order.
func shuffled(r *rand.Rand, a api.Table) api.Table {
	a.Rows = slices.Clone(a.Rows)
	r.Shuffle(len(a.Rows), func(i, j int) { a.Rows[i], a.Rows[j] = a.Rows[j], a.Rows[i] })
	return a
}

// someTables calls f with grown tables, and names of their columns: of many unlike terms, of few, and of numbers.
func someTables(n uint64, f func(r *rand.Rand, a api.Table, by []string)) {
	r := rand.New(rand.NewPCG(13, n))
	few := []api.Term{{}, integer("1"), integer("01"), decimal("1.0"), integer("2"), literal("1"), iri("a"), blank("a"), tagged("a", "en"), literal("a")}
	numbers := slices.DeleteFunc(rising(), func(x api.Term) bool {
		_, is := amountOf(x)
		return !is && x.Kind != api.None
	})
	for i := range 3000 {
		terms := [][]api.Term{few, rising(), numbers}[i%3]
		a := grown(r, []string{"x", "y", "z", "w"}, 12, terms)
		f(r, a, some(r, a.Vars))
	}
}
