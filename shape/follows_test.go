package shape_test

import (
	"math/rand/v2"
	"slices"
	"testing"

	"legation/api"
	"legation/shape"
)

// pieces tells a table put together of its slices of one length.
func pieces(t *testing.T, a api.Table, length int) api.Table {
	t.Helper()
	all := api.Table{Vars: a.Vars}
	for at := 0; at < len(a.Rows)+2*length; at += length {
		piece, e := shape.Slice(a, at, length)
		if want := max(0, min(length, len(a.Rows)-at)); e != api.OK || len(piece.Rows) != want || !slices.Equal(piece.Vars, a.Vars) {
			t.Fatalf("%s at %d, %d: %s, %d", written(a), at, length, written(piece), e)
		}
		all.Rows = append(all.Rows, piece.Rows...)
	}
	return all
}

// P12.5: slices side by side are the table: those of one length, and those up to a place and from it on.
func TestSlicesSideBySide(t *testing.T) {
	someTables(3, func(r *rand.Rand, a api.Table) {
		for _, n := range []int{1, 2, 3, 1 + r.IntN(14)} {
			check(t, "pieces", pieces(t, a, n), api.OK, a, a)
		}
		at := r.IntN(15)
		first, e := shape.Slice(a, 0, at)
		check(t, "the first ones", first, e, api.Table{Vars: a.Vars, Rows: a.Rows[:min(at, len(a.Rows))]}, a)
		last, e := shape.Slice(a, at, -1)
		check(t, "the last ones", api.Table{Vars: a.Vars, Rows: slices.Concat(first.Rows, last.Rows)}, e, a, a)
	})
	full := sized([]string{"x"}, api.MaxRows, 0)
	for _, n := range []int{63, 64, 1000, api.MaxRows - 1, api.MaxRows, api.MaxRows + 1} {
		check(t, "pieces", pieces(t, full, n), api.OK, full, full)
	}
}

// P12.6: Distinct of Distinct is itself; it has each row that the table has, once, in the order of the first ones.
func TestDistinctOfDistinct(t *testing.T) {
	someTables(4, func(r *rand.Rand, a api.Table) {
		want := api.Table{Vars: a.Vars}
		for _, row := range a.Rows {
			if !slices.ContainsFunc(want.Rows, func(s []api.Term) bool { return slices.Equal(s, row) }) {
				want.Rows = append(want.Rows, row)
			}
		}
		got, e := shape.Distinct(a)
		check(t, "Distinct", got, e, want, a)
		again, e := shape.Distinct(got)
		check(t, "Distinct of Distinct", again, e, got, a)
		b := shuffled(r, a)
		got, e = shape.Distinct(b)
		if e != api.OK || !shape.Same(got, again) { // which rows there are hangs on no order
			t.Fatalf("%s: %s; %s: %s, %d", written(a), written(again), written(b), written(got), e)
		}
	})
}

// P12.2: a grown table is the same with its rows and columns in another order; it is another one with a row more, with one less, and with one for another one.
func TestSameGrown(t *testing.T) {
	terms := bindable()
	someTables(5, func(r *rand.Rand, a api.Table) {
		vars := slices.Clone(a.Vars)
		r.Shuffle(len(vars), func(i, j int) { vars[i], vars[j] = vars[j], vars[i] })
		b, e := shape.Project(shuffled(r, a), vars)
		if e != api.OK || !shape.Same(a, b) || !shape.Same(b, a) {
			t.Fatalf("%s: %s, %d", written(a), written(b), e)
		}
		if len(b.Rows) == 0 {
			return
		}
		less, at := api.Table{Vars: vars, Rows: b.Rows[1:]}, r.IntN(len(b.Rows))
		more := api.Table{Vars: vars, Rows: append(slices.Clone(b.Rows), b.Rows[at])}
		others := []api.Table{less, more}
		if len(vars) > 0 {
			row := slices.Clone(b.Rows[at])
			i, x := r.IntN(len(row)), terms[r.IntN(len(terms))]
			if row[i] != x {
				row[i] = x
				others = append(others, api.Table{Vars: vars, Rows: slices.Concat(b.Rows[:at], [][]api.Term{row}, b.Rows[at+1:])})
			}
		}
		for _, c := range others {
			if shape.Same(a, c) || shape.Same(c, a) {
				t.Fatalf("%s and %s", written(a), written(c))
			}
		}
	})
}

// P12.1: of a grown table each column alone is that of the table; projected back and forth it is itself.
func TestProjectGrown(t *testing.T) {
	someTables(6, func(r *rand.Rand, a api.Table) {
		for i, name := range a.Vars {
			want := api.Table{Vars: []string{name, "new"}}
			for _, row := range a.Rows {
				want.Rows = append(want.Rows, []api.Term{row[i], {}})
			}
			got, e := shape.Project(a, want.Vars)
			check(t, "Project to "+name, got, e, want, a)
		}
		vars := append(slices.Clone(a.Vars), "new", "more")
		r.Shuffle(len(vars), func(i, j int) { vars[i], vars[j] = vars[j], vars[i] })
		b, e := shape.Project(a, vars)
		if e != api.OK || !slices.Equal(b.Vars, vars) {
			t.Fatalf("%s: %s, %d", written(a), written(b), e)
		}
		got, e := shape.Project(b, a.Vars)
		check(t, "Project back", got, e, a, a)
	})
}
