package shape_test

import (
	"math"
	"math/rand/v2"
	"slices"
	"strings"
	"testing"

	"legation/api"
	"legation/shape"
)

// alike are right terms whose texts, or whose texts side by side, could be taken for each other's.
func alike() []api.Term {
	return []api.Term{
		{}, literal(""), iri("a"), blank("a"), literal("a"), tagged("a", "en"), typed("a", "en"), typed("a", "t"), tagged("a", "e"), integer("1"), literal("1"), integer("01"), decimal("1.0"), literal("11"),
		literal(" "), literal("\t"), literal("\n"), literal(`"`), literal(`\`), literal(`\n`), literal(`\t`), literal(`\"`), literal("a "), literal(" a"), literal("a a"), literal("a\na"), literal("a\ta"), literal("<a>"), literal("_:a"), literal(`"a"`), literal(`a"@en`), literal(`a"^^<t>`), literal("a\" \"a"), literal("a\"\n\"a"), literal("-"), literal("A"), iri("A"), literal("0"), literal("0 1"), literal("1 0"),
	}
}

// combined tells the table of all rows of these terms.
func combined(vars []string, terms []api.Term) api.Table {
	a := api.Table{Vars: vars, Rows: [][]api.Term{nil}}
	for range vars {
		var longer [][]api.Term
		for _, row := range a.Rows {
			for _, x := range terms {
				longer = append(longer, append(slices.Clone(row), x))
			}
		}
		a.Rows = longer
	}
	return a
}

// P12.1: some columns, in that order; None of a variable that is not there.
func TestProject(t *testing.T) {
	const a = "x y z|1 2 3|4 - 6|1 2 3"
	for _, c := range [][3]string{
		{a, "x y z", a}, {a, "x", "x|1|4|1"}, {a, "y", "y|2|-|2"}, {a, "z x", "z x|3 1|6 4|3 1"}, {a, "z y x", "z y x|3 2 1|6 - 4|3 2 1"}, {a, "y z", "y z|2 3|- 6|2 3"},
		{a, "w", "w|-|-|-"}, {a, "y w x", "y w x|2 - 1|- - 4|2 - 1"}, {a, "X x", "X x|- 1|- 4|- 1"}, {a, "w v u t", "w v u t|- - - -|- - - -|- - - -"}, {a, "", "|||"},
		{"x", "", ""}, {"x", "y x", "y x"}, {"", "", ""}, {"", "x", "x"}, {"|", "", "|"}, {"||", "", "||"}, {"||", "x y", "x y|- -|- -"}, {"x|-", "x", "x|-"},
		{`x y|<a> "a"@en|_:b 1.0`, "y x", `y x|"a"@en <a>|1.0 _:b`},
	} {
		got, e := shape.Project(of(t, c[0]), strings.Fields(c[1]))
		check(t, "Project to "+c[1], got, e, of(t, c[2]), of(t, c[0]))
	}
}

// P12.1: MaxVars names, of tables with as many and with less variables, and of MaxRows rows.
func TestProjectMost(t *testing.T) {
	most := columns("v", api.MaxVars)
	back := slices.Clone(most)
	slices.Reverse(back)
	for _, n := range []int{0, 1, 5, api.MaxVars} {
		a := sized(most[:n], 3, 7)
		for i, row := range a.Rows {
			for j := range row {
				row[j] = integer(strings.Repeat("1", 1+i) + strings.Repeat("2", j))
			}
		}
		for _, vars := range [][]string{most, back, most[n:], most[:n], append(columns("w", 31), "v0"), {"v31", strings.Repeat("v", 32), "v0"}} {
			want := api.Table{Vars: vars}
			for _, row := range a.Rows {
				var l []api.Term
				for _, name := range vars {
					x := api.Term{}
					if i := slices.Index(a.Vars, name); i >= 0 {
						x = row[i]
					}
					l = append(l, x)
				}
				want.Rows = append(want.Rows, l)
			}
			got, e := shape.Project(a, vars)
			check(t, "Project", got, e, want, a)
		}
	}
	full := sized([]string{"x", "y"}, api.MaxRows, 0)
	got, e := shape.Project(full, []string{"y"})
	check(t, "Project", got, e, sized([]string{"y"}, api.MaxRows, 0), full)
	got, e = shape.Project(full, nil)
	check(t, "Project", got, e, sized(nil, api.MaxRows, 0), full)
}

// P12.1: of rows that are the same the first one alone.
func TestDistinct(t *testing.T) {
	for _, c := range [][2]string{
		{"x y|10 <a>|9 -|<a> 1|- 1|10 <a>", "x y|10 <a>|9 -|<a> 1|- 1"}, {"x|1|2|1|3|2|1", "x|1|2|3"}, {"x|2|1|1|2", "x|2|1"}, {"x|-|-|1|-", "x|-|1"}, {"x y|- 1|1 -|- -|- 1|1 -|- -", "x y|- 1|1 -|- -"}, {"x y|1 2|2 1|1 2", "x y|1 2|2 1"}, {"x y|1 1|1 2|2 1|2 2", "x y|1 1|1 2|2 1|2 2"},
		{"x", "x"}, {"", ""}, {"|", "|"}, {"||", "|"}, {"|||||", "|"}, {"x|1", "x|1"}, {"x|1|1|1|1", "x|1"},
		{`x|1|01|1.0|"1"|1`, `x|1|01|1.0|"1"`}, {`x|"a"|"a"@en|"a"@de|"a"^^<en>|"a"^^<de>|<a>|_:a|"A"|"a"@en|"a"^^<de>|_:a|<a>|"a"`, `x|"a"|"a"@en|"a"@de|"a"^^<en>|"a"^^<de>|<a>|_:a|"A"`},
	} {
		got, e := shape.Distinct(of(t, c[0]))
		check(t, "Distinct", got, e, of(t, c[1]), of(t, c[0]))
	}
}

// P12.1: rows that differ in one term alone, whatever that is, are not the same; and each of them is found again.
func TestDistinctAlike(t *testing.T) {
	l := alike()
	for _, a := range []api.Table{combined([]string{"x"}, l), combined([]string{"x", "y"}, l), combined([]string{"x", "y", "z"}, l[:14]), combined([]string{"x", "y", "z"}, l[14:29]), combined(columns("v", 6), l[:4])} {
		got, e := shape.Distinct(a)
		check(t, "Distinct", got, e, a, a)
		half := api.Table{Vars: a.Vars, Rows: a.Rows[:len(a.Rows)/2]}
		twice := api.Table{Vars: a.Vars, Rows: slices.Concat(half.Rows, half.Rows)}
		got, e = shape.Distinct(twice)
		check(t, "Distinct", got, e, half, twice)
		back := slices.Clone(half.Rows)
		slices.Reverse(back)
		twice.Rows = slices.Concat(half.Rows, back)
		got, e = shape.Distinct(twice)
		check(t, "Distinct", got, e, half, twice)
	}
}

// P12.1: MaxRows rows, all unlike, each twice, and all the same.
func TestDistinctMost(t *testing.T) {
	for _, vars := range [][]string{{"x"}, {"x", "y"}, columns("v", api.MaxVars)} {
		a := sized(vars, api.MaxRows, 0)
		got, e := shape.Distinct(a)
		check(t, "Distinct", got, e, a, a)
		half := sized(vars, api.MaxRows/2, 0)
		twice := api.Table{Vars: vars, Rows: slices.Concat(half.Rows, half.Rows)}
		got, e = shape.Distinct(twice)
		check(t, "Distinct", got, e, half, twice)
		one := api.Table{Vars: vars, Rows: slices.Repeat(a.Rows[:1], api.MaxRows)}
		got, e = shape.Distinct(one)
		check(t, "Distinct", got, e, sized(vars, 1, 0), one)
	}
	got, e := shape.Distinct(sized(nil, api.MaxRows, 0))
	check(t, "Distinct", got, e, sized(nil, 1, 0), api.Table{})
}

// P12.1: the rows from a place on, at most so many; of -1 all.
func TestSlice(t *testing.T) {
	const a = "x y|1 2|3 -|1 2|4 5"
	for _, c := range []struct {
		offset, limit int
		want          string
	}{
		{0, -1, a}, {0, 4, a}, {0, 5, a}, {0, 0, "x y"}, {0, 1, "x y|1 2"}, {0, 3, "x y|1 2|3 -|1 2"}, {1, -1, "x y|3 -|1 2|4 5"}, {1, 2, "x y|3 -|1 2"}, {1, 3, "x y|3 -|1 2|4 5"}, {1, 0, "x y"}, {3, -1, "x y|4 5"}, {3, 1, "x y|4 5"}, {3, 2, "x y|4 5"},
		{4, -1, "x y"}, {4, 0, "x y"}, {4, 1, "x y"}, {5, -1, "x y"}, {5, 5, "x y"}, {api.MaxRows, 1, "x y"},
		{0, math.MaxInt, a}, {2, math.MaxInt, "x y|1 2|4 5"}, {math.MaxInt, math.MaxInt, "x y"}, {math.MaxInt, -1, "x y"}, {math.MaxInt, 0, "x y"}, {math.MaxInt - 1, 2, "x y"}, {2, math.MaxInt - 1, "x y|1 2|4 5"}, {3, 1 << 32, "x y|4 5"}, {1 << 32, 3, "x y"},
	} {
		got, e := shape.Slice(of(t, a), c.offset, c.limit)
		check(t, "Slice", got, e, of(t, c.want), of(t, a))
	}
}

// P12.1: each offset and limit of tables of some rows, with variables and without.
func TestSliceEach(t *testing.T) {
	for _, vars := range [][]string{nil, {"x"}, {"x", "y"}} {
		for n := range 8 {
			a := sized(vars, n, 0)
			for offset := range n + 3 {
				for limit := -1; limit < n+3; limit++ {
					want := api.Table{Vars: vars}
					for i, row := range a.Rows {
						if i >= offset && (limit == -1 || i < offset+limit) {
							want.Rows = append(want.Rows, row)
						}
					}
					got, e := shape.Slice(a, offset, limit)
					check(t, "Slice", got, e, want, a)
				}
			}
		}
	}
}

// P12.1: a table of MaxRows rows.
func TestSliceMost(t *testing.T) {
	const most = api.MaxRows
	a := sized([]string{"x"}, most, 0)
	for _, n := range [][4]int{{0, -1, 0, most}, {0, most, 0, most}, {0, most + 1, 0, most}, {0, most - 1, 0, most - 1}, {1, most, 1, most - 1}, {most - 1, -1, most - 1, 1}, {most - 1, 9, most - 1, 1}, {most, -1, 0, 0}, {most + 1, 1, 0, 0}, {17, 1000, 17, 1000}} {
		got, e := shape.Slice(a, n[0], n[1])
		check(t, "Slice", got, e, sized(a.Vars, n[3], n[2]), a)
	}
}

// P12.2: the same variables and the same rows, by variables, each as often, whatever the order of both.
func TestSame(t *testing.T) {
	for _, c := range []struct {
		a, b string
		want bool
	}{
		{"x y|1 2|3 -", "x y|1 2|3 -", true}, {"x y|1 2|3 -", "x y|3 -|1 2", true}, {"x y|1 2|3 -", "y x|2 1|- 3", true}, {"x y|1 2|3 -", "y x|- 3|2 1", true}, {"x y|1 2|3 -", "y x|1 2|3 -", false}, {"x y|1 2|2 1", "y x|1 2|2 1", true}, {"a b c|1 2 3", "c a b|3 1 2", true}, {"a b c|1 2 3", "c a b|1 2 3", false},
		{"x|1|1|2", "x|1|2|1", true}, {"x|1|1|2", "x|1|2|2", false}, {"x|1|1|2", "x|1|2", false}, {"x|1|1", "x|1", false}, {"x|1|1|1|2", "x|2|1|1|1", true}, {"x|1|1|2|2|3", "x|3|2|1|1|1", false}, {"x|1|2|2", "x|2|1|1", false},
		{"x|1", "x|2", false}, {"x|1", "x|-", false}, {"x|-", "x|-", true}, {"x|1", "x|1|2", false}, {"x y|- 1", "x y|1 -", false}, {"x y|- 1", "y x|1 -", true},
		{"x|1", "y|1", false}, {"x|1", "X|1", false}, {"x|1", "x y|1 -", false}, {"x y|1 2", "x z|1 2", false}, {"x y|1 -", "x z|1 -", false}, {"x y|1 1", "x|1", false}, {"x|-", "y|-", false}, {"x|-", "|", false},
		{"x", "x", true}, {"x", "y", false}, {"x", "", false}, {"x", "x y", false}, {"x y", "y x", true}, {"x y", "x z", false}, {"x", "x|1", false}, {"", "", true}, {"|", "|", true}, {"||", "||", true}, {"||", "|", false}, {"", "|", false},
		{"x|1", "x|01", false}, {"x|1", "x|1.0", false}, {"x|1", `x|"1"`, false}, {`x|"a"`, `x|"a"@en`, false}, {`x|"a"@de`, `x|"a"@en`, false}, {`x|"a"@en`, `x|"a"^^<en>`, false}, {`x|"a"^^<s>`, `x|"a"^^<t>`, false}, {"x|<a>", `x|"a"`, false}, {"x|<a>", "x|_:a", false}, {`x|"a"`, `x|"b"`, false},
	} {
		a, b := of(t, c.a), of(t, c.b)
		if shape.Same(a, b) != c.want || shape.Same(b, a) != c.want || !shape.Same(a, a) || !shape.Same(b, b) {
			t.Errorf("%s and %s: not %t", c.a, c.b, c.want)
		}
	}
}

// P12.2: one row and another one, of terms whose texts are nearly alike.
func TestSameAlike(t *testing.T) {
	l := alike()
	for _, terms := range [][]api.Term{l[:13], l[14:27], l[27:]} {
		a := combined([]string{"x", "y"}, terms)
		for i, row := range a.Rows {
			for j, other := range a.Rows {
				one, two := api.Table{Vars: a.Vars, Rows: [][]api.Term{row}}, api.Table{Vars: a.Vars, Rows: [][]api.Term{other}}
				if shape.Same(one, two) != (i == j) {
					t.Fatalf("%s and %s", written(one), written(two))
				}
			}
		}
	}
}

// P12.2: MaxVars variables and MaxRows rows in other orders; and with one row that is another one.
func TestSameMost(t *testing.T) {
	r := rand.New(rand.NewPCG(12, 4))
	for _, vars := range [][]string{{"x"}, columns("v", api.MaxVars)} {
		a := sized(vars, api.MaxRows, 0)
		b := shuffled(r, a)
		b, _ = shape.Project(b, slices.Sorted(slices.Values(vars)))
		if !shape.Same(a, b) || !shape.Same(b, a) {
			t.Errorf("%d variables", len(vars))
		}
		b.Rows[api.MaxRows/3] = slices.Clone(b.Rows[7]) // one twice, one not at all
		if shape.Same(a, b) || shape.Same(b, a) {
			t.Errorf("%d variables: one row is another one", len(vars))
		}
	}
}
