package table_test

import (
	"math/rand/v2"
	"slices"
	"strings"
	"testing"

	"legation/api"
	"legation/table"
)

// bag tells a table's rows, by variables in order, whatever the order of rows and columns.
func bag(a api.Table) string {
	vars := slices.Sorted(slices.Values(a.Vars))
	var l []string
	for _, b := range plainOf(a).rows {
		l = append(l, written(api.Table{Rows: [][]api.Term{b.row(vars)}}))
	}
	slices.Sort(l)
	return strings.Join(vars, " ") + "\n" + strings.Join(l, "\n")
}

// some calls f with some grown tables.
func some(t *testing.T, n uint64, f func(a, b, c api.Table)) {
	t.Helper()
	r := rand.New(rand.NewPCG(11, n))
	names := []string{"x", "y", "z", "w"}
	terms := []api.Term{{}, {}, integer("1"), integer("2"), iri("a"), literal("1")}
	for range 3000 {
		f(grown(r, names, 7, terms), grown(r, names, 7, terms), grown(r, names, 7, terms))
	}
}

// joined tells two tables joined.
func joined(t *testing.T, a, b api.Table) api.Table {
	t.Helper()
	c, e := table.Join(a, b)
	if e != api.OK {
		t.Fatalf("%s and %s: %d", written(a), written(b), e)
	}
	return c
}

// single tells the table of one row of a.
func single(a api.Table, i int) api.Table {
	return api.Table{Vars: a.Vars, Rows: a.Rows[i : i+1]}
}

// P11.2: joining with Unit changes nothing.
func TestJoinUnit(t *testing.T) {
	some(t, 2, func(a, _, _ api.Table) {
		for _, pair := range [][2]api.Table{{a, table.Unit()}, {table.Unit(), a}} {
			got, e := table.Join(pair[0], pair[1])
			check(t, "Join", got, e, a)
		}
		got, e := table.Left(a, table.Unit(), nil)
		check(t, "Left", got, e, a)
	})
	for _, a := range rightTables() {
		got, e := table.Join(table.Unit(), a)
		check(t, "Join", got, e, a)
		got, e = table.Join(a, table.Unit())
		check(t, "Join", got, e, a)
	}
}

// P11.2: of two tables, and of three, whichever are joined first: the same rows.
func TestJoinOrder(t *testing.T) {
	some(t, 3, func(a, b, c api.Table) {
		if x, y := bag(joined(t, a, b)), bag(joined(t, b, a)); x != y {
			t.Fatalf("%s and %s: %s; the other way round %s", written(a), written(b), x, y)
		}
		want := bag(joined(t, joined(t, a, b), c))
		for _, got := range []api.Table{joined(t, a, joined(t, b, c)), joined(t, joined(t, a, c), b), joined(t, c, joined(t, b, a)), joined(t, b, joined(t, c, a))} {
			if bag(got) != want {
				t.Fatalf("%s and %s and %s: %s; not %s", written(a), written(b), written(c), bag(got), want)
			}
		}
	})
}

// P11.3: what Minus leaves of each row alone, it leaves of all, in order; what it takes off goes together with a row.
func TestMinusParts(t *testing.T) {
	some(t, 4, func(a, b, _ api.Table) {
		left := api.Table{Vars: a.Vars}
		var off api.Table
		for i := range a.Rows {
			one, e := table.Minus(single(a, i), b)
			left.Rows, off.Rows = append(left.Rows, one.Rows...), slices.Clone(a.Rows[i:i+1])
			if e != api.OK || len(one.Rows) > 1 || len(one.Rows) == 0 && len(joined(t, single(a, i), b).Rows) == 0 {
				t.Fatalf("%s off %s: %s, %d", written(b), written(single(a, i)), written(one), e)
			}
		}
		got, e := table.Minus(a, b)
		check(t, "Minus", got, e, left, a, b)
	})
	some(t, 5, func(a, b, _ api.Table) {
		left, e := table.Minus(a, b)
		again, d := table.Minus(left, b)
		check(t, "Minus", again, d, left, a, b) // nothing more to take off
		if e != api.OK {
			t.Fatalf("%d", e)
		}
	})
}

// P11.4: without a formula Left has, row by row, what Join has, or else the row itself.
func TestLeftParts(t *testing.T) {
	some(t, 6, func(a, b, _ api.Table) {
		all := joined(t, a, b)
		want := api.Table{Vars: all.Vars}
		n := 0
		for i := range a.Rows {
			l := joined(t, single(a, i), b).Rows
			n += len(l)
			if len(l) == 0 {
				l = plainUnion(plainOf(single(a, i)), plain{vars: b.Vars}).table().Rows
			}
			want.Rows = append(want.Rows, l...)
		}
		got, e := table.Left(a, b, nil)
		check(t, "Left", got, e, want, a, b)
		if n != len(all.Rows) {
			t.Fatalf("%s and %s: %d rows; not %d", written(a), written(b), len(all.Rows), n)
		}
	})
}
