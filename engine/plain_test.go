package engine_test

import (
	"fmt"
	"slices"
	"strconv"
	"strings"
	"testing"

	"legation/api"
	"legation/engine"
	"legation/formula"
	"legation/lex"
	"legation/query"
	"legation/store"
	"legation/table"
	"legation/term"
	"legation/triples"
)

// Terms are written as words: letters and what follows them are an IRI, digits (a hyphen ahead of them, too) a literal of TypeInteger, those with a full stop one of TypeDecimal, a hyphen alone is None, all else is a term's text without blanks. A row is words with blanks between, rows, patterns and triples have strokes between; a table has its variables ahead of its rows.

func iri(s string) api.Term      { return api.Term{Kind: api.Iri, Text: s} }
func literal(s string) api.Term  { return api.Term{Kind: api.Literal, Text: s} }
func variable(s string) api.Term { return api.Term{Kind: api.Var, Text: s} }
func typed(s, of string) api.Term {
	return api.Term{Kind: api.Literal, Text: s, Type: of}
}
func integer(s string) api.Term { return typed(s, api.TypeInteger) }
func decimal(s string) api.Term { return typed(s, api.TypeDecimal) }

// cell tells the term of a word.
func cell(t *testing.T, s string) api.Term {
	t.Helper()
	switch {
	case s == "-":
		return api.Term{}
	case strings.Trim(s, "-0123456789") == "":
		return integer(s)
	case strings.Trim(s, "-0123456789.") == "":
		return decimal(s)
	case strings.ToLower(s[:1]) != strings.ToUpper(s[:1]):
		return iri(s)
	}
	x, e := term.Read(s)
	if e != api.OK {
		t.Fatalf("%q: %d", s, e)
	}
	return x
}

// word tells a term as it is written here.
func word(x api.Term) string {
	s, e := term.Text(x)
	switch {
	case x == api.Term{}:
		return "-"
	case e != api.OK:
		return "?!"
	case x == integer(x.Text), x == decimal(x.Text), x == iri(x.Text):
		return x.Text
	}
	return s
}

// cells tells the rows that a text stands for.
func cells(t *testing.T, s string) [][]api.Term {
	t.Helper()
	var rows [][]api.Term
	for _, line := range strings.Split(s, "|") {
		var row []api.Term
		for _, w := range strings.Fields(line) {
			row = append(row, cell(t, w))
		}
		rows = append(rows, row)
	}
	return rows
}

// of tells the table that a text stands for.
func of(t *testing.T, s string) api.Table {
	t.Helper()
	vars, rows, are := strings.Cut(s, "|")
	a := api.Table{Vars: strings.Fields(vars)}
	if are {
		a.Rows = cells(t, rows)
	}
	if table.Check(a) != api.OK {
		t.Fatalf("%q", s)
	}
	return a
}

// patterns tells the patterns, or triples, that a text stands for.
func patterns(t *testing.T, s string) []api.Triple {
	t.Helper()
	if s == "" {
		return nil
	}
	var l []api.Triple
	for _, row := range cells(t, s) {
		if len(row) != 3 {
			t.Fatalf("%q: %v", s, row)
		}
		l = append(l, api.Triple{S: row[0], P: row[1], O: row[2]})
	}
	return l
}

// stored tells a store of the triples that a text stands for.
func stored(t *testing.T, s string) *store.Store {
	t.Helper()
	return storeOf(t, patterns(t, s))
}

func storeOf(t *testing.T, l []api.Triple) *store.Store {
	t.Helper()
	x, e := store.Of(l)
	if e != api.OK {
		t.Fatalf("%v: %d", l, e)
	}
	return x
}

// worldOf tells a world: the base's triples, then a name and its store's triples, and so on.
func worldOf(t *testing.T, base string, named ...string) engine.World {
	t.Helper()
	w := engine.World{Base: stored(t, base)}
	for i := 0; i < len(named); i += 2 {
		w.Names = append(w.Names, named[i])
		w.Stores = append(w.Stores, stored(t, named[i+1]))
	}
	return w
}

// parsed tells the query of a text.
func parsed(t *testing.T, s string) api.Query {
	t.Helper()
	q, e := query.Parse(s)
	if e != api.OK {
		t.Fatalf("%q: %d", s, e)
	}
	return q
}

// codeOf tells the code of a group's text.
func codeOf(t *testing.T, s string) []api.Op {
	t.Helper()
	return parsed(t, "ASK "+s).Code
}

// parts tells the formula of a text; of an empty one none.
func parts(t *testing.T, s string) []api.Part {
	t.Helper()
	if s == "" {
		return nil
	}
	l, _, e := lex.Lex(s)
	if e != api.OK {
		t.Fatalf("%q: %d", s, e)
	}
	f, at, e := formula.Parse(l, 0)
	if at != len(l) || e != api.OK {
		t.Fatalf("%q: %d %d", s, at, e)
	}
	return f
}

// Operations.

func basic(t *testing.T, s string) api.Op {
	t.Helper()
	return api.Op{Kind: api.OBasic, Triples: patterns(t, s)}
}

func given(t *testing.T, s string) api.Op {
	t.Helper()
	return api.Op{Kind: api.OTable, Table: of(t, s)}
}

func by(t *testing.T, kind int, f string) api.Op {
	t.Helper()
	return api.Op{Kind: kind, Formula: parts(t, f)}
}

func extend(t *testing.T, name, f string) api.Op {
	t.Helper()
	return api.Op{Kind: api.OExtend, Name: name, Formula: parts(t, f)}
}

func service(name string) api.Op { return api.Op{Kind: api.OService, Name: name} }
func silent(name string) api.Op  { return api.Op{Kind: api.OService, Name: name, Silent: true} }

var (
	join  = api.Op{Kind: api.OJoin}
	union = api.Op{Kind: api.OUnion}
	left  = api.Op{Kind: api.OLeft}
	minus = api.Op{Kind: api.OMinus}
)

// brief tells anything's text, cut short.
func brief(x any) string { return fmt.Sprintf("%.500s", fmt.Sprintf("%+v", x)) }

// written tells a table's text, cut short.
func written(a api.Table) string {
	s := strings.Join(a.Vars, " ")
	for _, row := range a.Rows {
		var words []string
		for _, x := range row {
			words = append(words, word(x))
		}
		s += "|" + strings.Join(words, " ")
		if len(s) > 500 {
			break
		}
	}
	return fmt.Sprintf("%.500s (%d rows)", s, len(a.Rows))
}

// check holds what a call told against the table that it should have told. Whatever is told is a right table.
func check(t *testing.T, what any, got api.Table, e api.Errno, want api.Table) {
	t.Helper()
	if e != api.OK || !same(got, want) || table.Check(got) != api.OK {
		t.Fatalf("%s: %s, %d; not %s", brief(what), written(got), e, written(want))
	}
}

// refused holds that a call told an error and nothing else.
func refused(t *testing.T, what any, got api.Table, e, want api.Errno) {
	t.Helper()
	if e != want || len(got.Vars) > 0 || len(got.Rows) > 0 {
		t.Fatalf("%s: %s, %d; not %d", brief(what), written(got), e, want)
	}
}

// told holds that a call told an error, if it is one, or else a table.
func told(t *testing.T, what any, got api.Table, e api.Errno, want api.Table, wanted api.Errno) {
	t.Helper()
	if wanted != api.OK {
		refused(t, what, got, e, wanted)
		return
	}
	check(t, what, got, e, want)
}

// same tells whether two tables are alike, row by row.
func same(a, b api.Table) bool {
	return slices.Equal(a.Vars, b.Vars) && slices.EqualFunc(a.Rows, b.Rows, slices.Equal[[]api.Term])
}

// bag tells a table's text, whatever the order of rows and columns.
func bag(a api.Table) string {
	vars := slices.Sorted(slices.Values(a.Vars))
	var l []string
	for _, row := range a.Rows {
		s := ""
		for _, name := range vars {
			s += word(row[slices.Index(a.Vars, name)]) + " "
		}
		l = append(l, s)
	}
	slices.Sort(l)
	return strings.Join(vars, " ") + "|" + strings.Join(l, "|")
}

// columns are n names that begin so.
func columns(begin string, n int) []string {
	var l []string
	for i := range n {
		l = append(l, begin+strconv.Itoa(i))
	}
	return l
}

// counted are n triples of this predicate, whose subjects and objects are numbered.
func counted(p string, n int) []api.Triple {
	var l []api.Triple
	for i := range n {
		l = append(l, api.Triple{S: iri("s" + strconv.Itoa(i)), P: iri(p), O: integer(strconv.Itoa(i))})
	}
	return l
}

// wide are patterns of one predicate that have n variables together, at most two each.
func wide(n int) []api.Triple {
	var l []api.Triple
	names := columns("v", n)
	for len(names) > 1 {
		l = append(l, api.Triple{S: variable(names[0]), P: iri("k"), O: variable(names[1])})
		names = names[2:]
	}
	if len(names) > 0 {
		l = append(l, api.Triple{S: variable(names[0]), P: iri("k"), O: iri("b")})
	}
	return l
}

// The tests' notation: what is written is what was read.
func TestNotation(t *testing.T) {
	s := `x y z|a 1 -|-1 1.0 _:b|"a" "1" "a"@en`
	if got := strings.TrimSuffix(written(of(t, s)), " (3 rows)"); got != s {
		t.Errorf("%q", got)
	}
	l := patterns(t, "?x k ?y|a k 1")
	if l[0] != (api.Triple{S: variable("x"), P: iri("k"), O: variable("y")}) || l[1].O != integer("1") || triples.Check(l[1]) != api.OK {
		t.Errorf("%v", l)
	}
}
