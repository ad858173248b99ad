package result_test

import (
	"slices"
	"testing"

	"legation/api"
	"legation/result"
)

// unlike holds that two replies are not the same, whichever of them comes first, and that each is the same as itself.
func unlike(t *testing.T, a, b api.Reply) {
	t.Helper()
	if result.Same(a, b) || result.Same(b, a) {
		t.Errorf("the same: %s and %s", brief(a), brief(b))
	}
	alike(t, a, copied(a))
	alike(t, b, copied(b))
}

func alike(t *testing.T, a, b api.Reply) {
	t.Helper()
	if !result.Same(a, b) || !result.Same(b, a) {
		t.Errorf("not the same: %s and %s", brief(a), brief(b))
	}
}

// P17.1: replies that differ in one field alone are not the same, right or not.
func TestSameFields(t *testing.T) {
	full := tabled(1, "x y", row(iri("a"), api.Term{}), row(literal("b"), iri("c")))
	for _, r := range []api.Reply{{}, truth(1, true), truth(0, false), failed(2, 5), tabled(3, ""), tabled(4, "", row()), full, {Id: 7, Kind: 2, Table: full.Table, Truth: true, Err: 9}, {Id: -1, Kind: 9, Err: -1}} {
		other := r
		other.Id++
		unlike(t, r, other)
		other = r
		other.Kind++
		unlike(t, r, other)
		other = r
		other.Truth = !r.Truth
		unlike(t, r, other)
		other = r
		other.Err++
		unlike(t, r, other)
		other = r
		other.Table.Vars = append(slices.Clone(r.Table.Vars), "z")
		unlike(t, r, other)
		other = r
		other.Table.Rows = append(slices.Clone(r.Table.Rows), nil)
		unlike(t, r, other)
	}
}

// P17.1: tables that differ in one variable, one cell, one row, or in their order are not the same.
func TestSameTables(t *testing.T) {
	a, b, none := iri("a"), iri("b"), api.Term{}
	r := tabled(1, "x y", row(a, none), row(b, a), row(none, none))
	for _, other := range []api.Reply{
		tabled(1, "x z", r.Table.Rows...), tabled(1, "z y", r.Table.Rows...), tabled(1, "y x", r.Table.Rows...), tabled(1, "x", r.Table.Rows...), tabled(1, "", r.Table.Rows...), tabled(1, "x y z", r.Table.Rows...), tabled(1, "X y", r.Table.Rows...), tabled(1, "x x", r.Table.Rows...),
		tabled(1, "x y"), tabled(1, "x y", r.Table.Rows[:2]...), tabled(1, "x y", r.Table.Rows[1:]...), tabled(1, "x y", append(slices.Clone(r.Table.Rows), row(a, none))...), tabled(1, "x y", row(b, a), row(a, none), row(none, none)), tabled(1, "x y", row(a, none), row(none, none), row(b, a)), tabled(1, "x y", row(none, none), row(b, a), row(a, none)),
		tabled(1, "x y", row(b, none), row(b, a), row(none, none)), tabled(1, "x y", row(a, a), row(b, a), row(none, none)), tabled(1, "x y", row(a, none), row(b, b), row(none, none)), tabled(1, "x y", row(a, none), row(a, b), row(none, none)), tabled(1, "x y", row(a, none), row(b, a), row(none, a)), tabled(1, "x y", row(a, none), row(b, a), row(a, none)), tabled(1, "x y", row(none, a), row(b, a), row(none, none)),
		tabled(1, "x y", row(a), row(b, a), row(none, none)), tabled(1, "x y", row(a, none, none), row(b, a), row(none, none)), tabled(1, "x y", row(a, none), row(b, a), row(none)), tabled(1, "x y", row(a, none), row(b, a), nil), tabled(1, "x y", row(a, none), row(b, a, none), row(none, none)), tabled(1, "x y", row(a, none, b), row(a), row(none, none)),
	} {
		unlike(t, r, other)
	}
}

// P17.1: terms that differ in one field alone are not the same.
func TestSameTerms(t *testing.T) {
	terms := []api.Term{{}, iri("a"), iri("b"), blank("a"), variable("a"), literal("a"), literal("A"), literal("a "), literal(""), typed("a", "a"), typed("a", "b"), tagged("a", "a"), tagged("a", "b"), typed("1", api.TypeInteger), typed("01", api.TypeInteger), typed("1", api.TypeDecimal), typed("a", api.TypeString), {Kind: 9, Text: "a"}, {Kind: -1, Text: "a"}, {Kind: api.Iri, Text: "a", Type: "a"}, {Kind: api.Iri, Text: "a", Lang: "a"}}
	for i, x := range terms {
		for j, y := range terms {
			r, s := tabled(1, "x y", row(x, iri("o")), row(iri("o"), iri("o"))), tabled(1, "x y", row(y, iri("o")), row(iri("o"), iri("o")))
			if i == j {
				alike(t, r, s)
			} else {
				unlike(t, r, s)
				unlike(t, tabled(1, "x y", row(iri("o"), x)), tabled(1, "x y", row(iri("o"), y)))
			}
		}
	}
}

// P17.1: lists without elements are nil's like to Same, too.
func TestSameEmpty(t *testing.T) {
	for _, vars := range [][]string{nil, {}} {
		for _, rows := range [][][]api.Term{nil, {}} {
			alike(t, api.Reply{}, api.Reply{Table: api.Table{Vars: vars, Rows: rows}})
			unlike(t, tabled(1, "", row()), api.Reply{Id: 1, Kind: api.RTable, Table: api.Table{Vars: vars, Rows: rows}})
		}
	}
	alike(t, tabled(1, "", nil, row()), tabled(1, "", row(), nil))
	unlike(t, tabled(1, "", nil), tabled(1, "", nil, nil))
	unlike(t, tabled(1, "", nil), tabled(1, "", row(api.Term{})))
}

// P17.1: of any replies, Same is the tests' own reading of it.
func TestSameGrown(t *testing.T) {
	g := newGrower(8)
	for range 20000 {
		a := g.changed(g.reply())
		b := g.changed(a)
		if is := result.Same(a, b); is != same(a, b) || is != result.Same(b, a) {
			t.Fatalf("%s and %s: %t", brief(a), brief(b), is)
		}
		alike(t, a, copied(a))
	}
}
