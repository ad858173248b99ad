package table_test

import (
	"slices"
	"testing"

	"legation/api"
	"legation/table"
)

// checkWide holds what all calls say of two tables that have so many variables together.
func checkWide(t *testing.T, a, b api.Table) {
	t.Helper()
	f := parts(t, "TRUE")
	x, y := plainOf(a), plainOf(b)
	got, e := table.Minus(a, b)
	check(t, "Minus", got, e, plainMinus(x, y).table(), a, b)
	if len(variables(x, y)) <= api.MaxVars {
		checkTwo(t, a, b, f)
		return
	}
	got, e = table.Join(a, b)
	refused(t, "Join", got, e, api.ErrLong)
	got, e = table.Union(a, b)
	refused(t, "Union", got, e, api.ErrLong)
	got, e = table.Left(a, b, nil)
	refused(t, "Left", got, e, api.ErrLong)
	got, e = table.Left(a, b, f)
	refused(t, "Left by a formula", got, e, api.ErrLong)
}

// P11.1: MaxVars variables and one more, of two tables with rows and without, shared and not.
func TestMostVariables(t *testing.T) {
	most := columns("v", api.MaxVars)
	back := slices.Clone(most)
	slices.Reverse(back)
	for _, v := range [][2][]string{
		{most, nil}, {most, most}, {most, back}, {most, most[:1]}, {most, most[31:]}, {most[:31], most}, {most[:16], most[16:]}, {most[:20], most[10:]}, {most[:31], []string{"x"}}, // MaxVars
		{most, []string{"x"}}, {most, []string{"v0", "x"}}, {most, columns("x", api.MaxVars)}, {most[:16], columns("x", 17)}, {most[:31], []string{"x", "y"}}, {most[:31], []string{"v0", "x", "v30", "y"}}, {most, append(slices.Clone(back[:31]), "x")}, // more
	} {
		for _, rows := range [][2]int{{0, 0}, {0, 1}, {1, 0}, {1, 1}, {3, 2}} {
			a, b := sized(v[0], rows[0], 1), sized(v[1], rows[1], 1)
			checkWide(t, a, b)
			checkWide(t, b, a)
		}
	}
}

// P11.1: one table of MaxVars variables has room for no further one.
func TestMostExtended(t *testing.T) {
	f := parts(t, "?v0 + 1")
	for _, rows := range []int{0, 1, 5} {
		for n := range api.MaxVars + 1 {
			a := sized(columns("v", n), rows, 1)
			got, e := table.Extend(a, "x", f)
			if n == api.MaxVars {
				refused(t, "Extend", got, e, api.ErrLong)
			} else {
				check(t, "Extend", got, e, plainExtend(plainOf(a), "x", f).table(), a)
			}
			got, e = table.Filter(a, f)
			check(t, "Filter", got, e, plainFilter(plainOf(a), f).table(), a)
		}
	}
}

// checkRows holds what a call says that makes n rows.
func checkRows(t *testing.T, what string, n int, got api.Table, e api.Errno) {
	t.Helper()
	if n > api.MaxRows {
		refused(t, what, got, e, api.ErrLong)
	} else if e != api.OK || len(got.Rows) != n || table.Check(got) != api.OK {
		t.Fatalf("%s: %d rows, %d; not %d", what, len(got.Rows), e, n)
	}
}

// P11.1: MaxRows rows and one more, made by each row with each: without a shared variable, and without any variable.
func TestMostJoined(t *testing.T) {
	const most = api.MaxRows
	no := parts(t, "FALSE")
	for _, n := range [][2]int{{64, 64}, {64, 65}, {65, 64}, {63, 65}, {1, most}, {most, 1}, {2, most / 2}, {most / 2, 2}, {17, 241}, {241, 17}, {2, most}, {most, 2}, {most, most}, {0, most}, {most, 0}} {
		for _, vars := range [][2][]string{{{"x"}, {"y"}}, {nil, {"y"}}, {{"x"}, nil}, {nil, nil}} {
			a, b := sized(vars[0], n[0], 0), sized(vars[1], n[1], 0)
			got, e := table.Join(a, b)
			checkRows(t, "Join", n[0]*n[1], got, e)
			got, e = table.Left(a, b, nil)
			checkRows(t, "Left", n[0]*max(n[1], 1), got, e)
			if n[0]*n[1] <= 2*most { // rows for which the formula does not hold are no rows
				got, e = table.Left(a, b, no)
				check(t, "Left by a formula", got, e, plainLeft(plainOf(a), plain{vars: vars[1]}, nil).table())
			}
		}
	}
}

// P11.1: MaxRows rows and one more, by one row that makes one more than all others, wherever it stands.
func TestOneTooMany(t *testing.T) {
	const most = api.MaxRows
	a := sized([]string{"x"}, most, 0)
	for _, at := range []int{0, 1, most / 2, most - 2} {
		x := a.Rows[at][0]
		two := api.Table{Vars: []string{"y", "x"}, Rows: [][]api.Term{{integer("1"), x}, {integer("2"), x}}}
		got, e := table.Left(a, two, nil)
		checkRows(t, "Left", most+1, got, e)
		got, e = table.Left(a, two, parts(t, "?y = 2"))
		check(t, "Left by a formula", got, e, plainLeft(plainOf(a), plainOf(api.Table{Vars: two.Vars, Rows: two.Rows[1:]}), nil).table())
		one := api.Table{Vars: a.Vars, Rows: a.Rows[:most-1]}
		twice := api.Table{Vars: a.Vars, Rows: slices.Insert(slices.Clone(one.Rows), at, a.Rows[at])}
		got, e = table.Join(one, twice)
		check(t, "Join", got, e, twice)
		got, e = table.Join(twice, one)
		check(t, "Join", got, e, twice)
		other := api.Table{Vars: a.Vars, Rows: append(slices.Clone(one.Rows), a.Rows[7])}
		got, e = table.Join(twice, other)
		checkRows(t, "Join", most+1, got, e)
		got, e = table.Left(other, twice, nil)
		checkRows(t, "Left", most+1, got, e)
	}
}

// P11.1: MaxRows rows and one more, by uniting.
func TestMostUnited(t *testing.T) {
	const most = api.MaxRows
	for _, n := range []int{0, 1, 2, most / 2, most - 1, most} {
		for _, vars := range [][2][]string{{{"x"}, {"y"}}, {{"x"}, {"x"}}, {{"x", "y"}, {"y"}}, {nil, {"y"}}, {nil, nil}} {
			for m := most - n; m <= most; m += max(1, most/3) {
				got, e := table.Union(sized(vars[0], n, 0), sized(vars[1], m, 0))
				checkRows(t, "Union", n+m, got, e)
			}
			got, e := table.Union(sized(vars[0], n, 0), sized(vars[1], min(most, most-n+1), 0))
			checkRows(t, "Union", n+min(most, most-n+1), got, e)
		}
	}
}

// P11.1: MaxRows rows, of which some are taken off, some hold, and all come to something.
func TestMostRows(t *testing.T) {
	a := sized([]string{"x", "y"}, api.MaxRows, 0)
	for _, from := range []int{0, 1, api.MaxRows - 1, api.MaxRows} {
		b := sized([]string{"y"}, api.MaxRows, from)
		got, e := table.Minus(a, b)
		check(t, "Minus", got, e, api.Table{Vars: a.Vars, Rows: a.Rows[:from]})
		got, e = table.Join(a, b)
		check(t, "Join", got, e, api.Table{Vars: a.Vars, Rows: a.Rows[from:]})
		got, e = table.Left(a, b, nil)
		check(t, "Left", got, e, a)
	}
	f := parts(t, "?x < 100 || ?y >= 4000")
	got, e := table.Filter(a, f)
	check(t, "Filter", got, e, plainFilter(plainOf(a), f).table())
	got, e = table.Extend(a, "z", f)
	check(t, "Extend", got, e, plainExtend(plainOf(a), "z", f).table())
}
