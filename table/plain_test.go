package table_test

import (
	"fmt"
	"math/rand/v2"
	"slices"
	"strings"
	"testing"

	"legation/api"
	"legation/eval"
	"legation/formula"
	"legation/lex"
	"legation/table"
	"legation/term"
)

// Tables are written as texts: the variables, then each row behind a stroke; digits are a literal of TypeInteger, a hyphen is None, all else is a term's text without blanks.

func iri(s string) api.Term     { return api.Term{Kind: api.Iri, Text: s} }
func blank(s string) api.Term   { return api.Term{Kind: api.Blank, Text: s} }
func literal(s string) api.Term { return api.Term{Kind: api.Literal, Text: s} }
func integer(s string) api.Term {
	return api.Term{Kind: api.Literal, Text: s, Type: api.TypeInteger}
}

// of tells the table that a text stands for.
func of(t *testing.T, s string) api.Table {
	t.Helper()
	lines := strings.Split(s, "|")
	a := api.Table{Vars: strings.Fields(lines[0])}
	for _, line := range lines[1:] {
		var row []api.Term
		for _, word := range strings.Fields(line) {
			row = append(row, cell(t, word))
		}
		if len(row) != len(a.Vars) {
			t.Fatalf("%q: %q", s, line)
		}
		a.Rows = append(a.Rows, row)
	}
	return a
}

func cell(t *testing.T, word string) api.Term {
	t.Helper()
	if word == "-" {
		return api.Term{}
	}
	if strings.Trim(word, "0123456789") == "" {
		return integer(word)
	}
	x, e := term.Read(word)
	if e != api.OK {
		t.Fatalf("%q: %d", word, e)
	}
	return x
}

// written tells a table's text, cut short.
func written(a api.Table) string {
	var s strings.Builder
	s.WriteString(strings.Join(a.Vars, " "))
	for _, row := range a.Rows {
		s.WriteString("|")
		for i, x := range row {
			if i > 0 {
				s.WriteString(" ")
			}
			word, _ := term.Text(x)
			switch {
			case x == api.Term{}:
				word = "-"
			case x == integer(x.Text):
				word = x.Text
			}
			s.WriteString(word)
		}
	}
	return fmt.Sprintf("%.300s", s.String())
}

// parts tells the formula of a text; of an empty one none.
func parts(t *testing.T, s string) []api.Part {
	t.Helper()
	if s == "" {
		return nil
	}
	l, _, e := lex.Lex(s)
	if e != api.OK {
		t.Fatalf("%q: %d", s, e)
	}
	f, at, e := formula.Parse(l, 0)
	if at != len(l) || e != api.OK {
		t.Fatalf("%q: %d %d", s, at, e)
	}
	return f
}

// check holds what a call told, of some tables, against the table that it should have told. Whatever is told is a right table.
func check(t *testing.T, what string, got api.Table, e api.Errno, want api.Table, of ...api.Table) {
	t.Helper()
	if e == api.OK && same(got, want) && table.Check(got) == api.OK {
		return
	}
	for _, a := range of {
		what += ", " + written(a)
	}
	t.Fatalf("%s: %s, %d; not %s", what, written(got), e, written(want))
}

// refused holds that a call told an error and nothing else.
func refused(t *testing.T, what string, got api.Table, e, want api.Errno) {
	t.Helper()
	if e != want || len(got.Vars) > 0 || len(got.Rows) > 0 {
		t.Fatalf("%q: %s, %d; not %d", what, written(got), e, want)
	}
}

// same tells whether two tables are alike, row by row.
func same(a, b api.Table) bool {
	return slices.Equal(a.Vars, b.Vars) && slices.EqualFunc(a.Rows, b.Rows, slices.Equal[[]api.Term])
}

// The tests' own reading of the chapter: a row is what its variables are bound to, and has nothing of those that are not bound.

type binding map[string]api.Term

type plain struct {
	vars []string
	rows []binding
}

func plainOf(a api.Table) plain {
	p := plain{vars: slices.Clone(a.Vars)}
	for _, row := range a.Rows {
		b := binding{}
		for i, x := range row {
			if x.Kind != api.None {
				b[a.Vars[i]] = x
			}
		}
		p.rows = append(p.rows, b)
	}
	return p
}

func (b binding) row(vars []string) []api.Term {
	var row []api.Term
	for _, v := range vars {
		row = append(row, b[v])
	}
	return row
}

func (p plain) table() api.Table {
	a := api.Table{Vars: p.vars}
	for _, b := range p.rows {
		a.Rows = append(a.Rows, b.row(p.vars))
	}
	return a
}

// with tells what two rows make.
func (b binding) with(c binding) binding {
	d := binding{}
	for _, x := range []binding{b, c} {
		for v, t := range x {
			d[v] = t
		}
	}
	return d
}

// common tells whether two rows have no variable that is bound to unlike terms, and how many that are bound to the same.
func (b binding) common(c binding) (bool, int) {
	n := 0
	for v, t := range b {
		if u, is := c[v]; is && u != t {
			return false, 0
		} else if is {
			n++
		}
	}
	return true, n
}

// variables tells those of both.
func variables(a, b plain) []string {
	l := slices.Clone(a.vars)
	for _, v := range b.vars {
		if !slices.Contains(a.vars, v) {
			l = append(l, v)
		}
	}
	return l
}

func (b binding) holds(f []api.Part, vars []string) bool {
	is, _ := eval.Holds(f, vars, b.row(vars))
	return is
}

func plainJoin(a, b plain) plain {
	p := plain{vars: variables(a, b)}
	for _, x := range a.rows {
		for _, y := range b.rows {
			if together, _ := x.common(y); together {
				p.rows = append(p.rows, x.with(y))
			}
		}
	}
	return p
}

func plainUnion(a, b plain) plain {
	return plain{variables(a, b), slices.Concat(a.rows, b.rows)}
}

func plainMinus(a, b plain) plain {
	p := plain{vars: a.vars}
	for _, x := range a.rows {
		taken := false
		for _, y := range b.rows {
			together, n := x.common(y)
			taken = taken || together && n > 0
		}
		if !taken {
			p.rows = append(p.rows, x)
		}
	}
	return p
}

func plainLeft(a, b plain, f []api.Part) plain {
	p := plain{vars: variables(a, b)}
	for _, x := range a.rows {
		found := false
		for _, y := range plainJoin(plain{a.vars, []binding{x}}, b).rows {
			if len(f) == 0 || y.holds(f, p.vars) {
				found, p.rows = true, append(p.rows, y)
			}
		}
		if !found {
			p.rows = append(p.rows, x)
		}
	}
	return p
}

func plainFilter(a plain, f []api.Part) plain {
	p := plain{vars: a.vars}
	for _, x := range a.rows {
		if x.holds(f, a.vars) {
			p.rows = append(p.rows, x)
		}
	}
	return p
}

func plainExtend(a plain, name string, f []api.Part) plain {
	p := plain{vars: append(slices.Clone(a.vars), name)}
	for _, x := range a.rows {
		if t, e := eval.Eval(f, a.vars, x.row(a.vars)); e == api.OK {
			x = x.with(binding{name: t})
		}
		p.rows = append(p.rows, x)
	}
	return p
}

// checkTwo holds all that two tables make against the plain reading.
func checkTwo(t *testing.T, a, b api.Table, f []api.Part) {
	t.Helper()
	x, y := plainOf(a), plainOf(b)
	got, e := table.Join(a, b)
	check(t, "Join", got, e, plainJoin(x, y).table(), a, b)
	got, e = table.Union(a, b)
	check(t, "Union", got, e, plainUnion(x, y).table(), a, b)
	got, e = table.Minus(a, b)
	check(t, "Minus", got, e, plainMinus(x, y).table(), a, b)
	got, e = table.Left(a, b, nil)
	check(t, "Left", got, e, plainLeft(x, y, nil).table(), a, b)
	got, e = table.Left(a, b, f)
	check(t, "Left by a formula", got, e, plainLeft(x, y, f).table(), a, b)
}

// someTerms are right terms of each kind that a table may have, some of them nearly alike, and None.
func someTerms() []api.Term {
	return []api.Term{
		{}, {}, {}, integer("1"), integer("2"), integer("01"), literal("1"), literal("2"), iri("1"), iri("a"), blank("a"), literal("a"),
		{Kind: api.Literal, Text: "a", Lang: "en"}, {Kind: api.Literal, Text: "a", Lang: "de"}, {Kind: api.Literal, Text: "1", Type: "t"}, {Kind: api.Literal, Text: "true", Type: api.TypeBoolean}, {Kind: api.Literal, Text: "1.0", Type: api.TypeDecimal},
	}
}

// grown tells some table, of some of these names, in any order, and of so many terms.
func grown(r *rand.Rand, names []string, most int, terms []api.Term) api.Table {
	names = slices.Clone(names)
	r.Shuffle(len(names), func(i, j int) { names[i], names[j] = names[j], names[i] })
	a := api.Table{Vars: names[:r.IntN(len(names)+1)]}
	for range r.IntN(most + 1) {
		var row []api.Term
		for range a.Vars {
			row = append(row, terms[r.IntN(len(terms))])
		}
		if n := len(a.Rows); n > 0 && r.IntN(6) == 0 {
			row = slices.Clone(a.Rows[r.IntN(n)]) // one that stands twice
		}
		a.Rows = append(a.Rows, row)
	}
	return a
}

// someFormulas hold for some rows, come to terms of each kind, and to errors.
func someFormulas(t *testing.T) [][]api.Part {
	var l [][]api.Part
	for _, s := range []string{
		"TRUE", "FALSE", "1 / 0", "<a>", "?x", "?y", "?z", "?w", "?x = ?y", "?x != ?z", "?x < ?z", "?y >= 2", "BOUND(?x)", "! BOUND(?z)", "BOUND(?y) && BOUND(?z)", "?x + ?y", "STR(?y)", "ISIRI(?z)", "SAMETERM(?x,?y)", "COALESCE(?w,?z,?y,0)", "IF(BOUND(?x),?x = 1,?z)", "?missing", "! BOUND(?missing)", "?x = 1 || ?z = 2",
	} {
		l = append(l, parts(t, s))
	}
	return l
}
