package group_test

import (
	"math/rand/v2"
	"slices"
	"strconv"
	"testing"

	"legation/api"
	"legation/group"
	"legation/shape"
)

// P13.3: the counts of all groups together are how many rows there are; of a variable, in how many it is bound.
func TestCountsTogether(t *testing.T) {
	someTables(2, func(r *rand.Rand, a api.Table, by []string) {
		l := counts("c", 1)
		want := []int{len(a.Rows)}
		for i, name := range a.Vars {
			l = append(l, api.Agg{Kind: api.ACount, Over: name, Name: "d" + strconv.Itoa(i)})
			n := 0
			for _, row := range a.Rows {
				if row[i] != (api.Term{}) {
					n++
				}
			}
			want = append(want, n)
		}
		g, e := group.Group(a, by, l)
		got := make([]int, len(l))
		for _, row := range g.Rows {
			for i, x := range row[len(by):] {
				n, err := strconv.Atoi(x.Text)
				if err != nil || x != integer(x.Text) {
					t.Fatalf("%s: a count is %s", written(a), word(x))
				}
				got[i] += n
			}
		}
		if e != api.OK || !slices.Equal(got, want) {
			t.Fatalf("%s by %v: %v, %d; not %v", written(a), by, got, e, want)
		}
	})
}

// P13.4: the rows in another order make the same groups, with the same counts and least and greatest terms.
func TestOrderOfRows(t *testing.T) {
	someTables(3, func(r *rand.Rand, a api.Table, by []string) {
		l := slices.DeleteFunc(someAggs(r, a.Vars), func(g api.Agg) bool { return g.Kind == api.ASum })
		b := shuffled(r, a)
		one, e := group.Group(a, by, l)
		two, d := group.Group(b, by, l)
		if e != api.OK || d != api.OK || !shape.Same(one, two) {
			t.Fatalf("%s: %s, %d; %s: %s, %d", written(a), written(one), e, written(b), written(two), d)
		}
		for _, agg := range l {
			x, e := group.Of(a, agg)
			if y, d := group.Of(b, agg); x != y || e != api.OK || d != api.OK {
				t.Fatalf("%s: %s, %d; %s: %s, %d", written(a), word(x), e, written(b), word(y), d)
			}
		}
	})
}

// P13.5: a group's least term is not behind its greatest one, and both are terms of it; there is none just if none is bound.
func TestLeastNotBehindGreatest(t *testing.T) {
	someTables(4, func(r *rand.Rand, a api.Table, by []string) {
		for i, name := range a.Vars {
			g, e := group.Group(a, by, []api.Agg{{Kind: api.AMin, Over: name, Name: "m"}, {Kind: api.AMax, Over: name, Name: "k"}})
			if e != api.OK {
				t.Fatalf("%s: %d", written(a), e)
			}
			for _, row := range g.Rows {
				least, greatest := row[len(by)], row[len(by)+1]
				var terms []api.Term
				for _, of := range rowsOf(a, by, row[:len(by)]) {
					terms = append(terms, of[i])
				}
				bound := slices.ContainsFunc(terms, func(x api.Term) bool { return x != (api.Term{}) })
				if shape.Compare(least, greatest) > 0 || len(terms) > 0 && (!slices.Contains(terms, least) || !slices.Contains(terms, greatest)) {
					t.Fatalf("%s by %v: %s", written(a), by, written(g))
				}
				if (least == api.Term{}) == bound || (greatest == api.Term{}) == bound {
					t.Fatalf("%s by %v: %s", written(a), by, written(g))
				}
			}
		}
	})
}

// P13.2: what an aggregate comes to of all rows is what it comes to in the one group of no columns, and in each group what it comes to of that group's rows alone.
func TestOfEachGroup(t *testing.T) {
	someTables(5, func(r *rand.Rand, a api.Table, by []string) {
		l := someAggs(r, a.Vars)
		g, e := group.Group(a, by, l)
		if e != api.OK {
			t.Fatalf("%s: %d", written(a), e)
		}
		for _, row := range g.Rows {
			alone := api.Table{Vars: a.Vars, Rows: rowsOf(a, by, row[:len(by)])}
			for i, agg := range l {
				if x, e := group.Of(alone, agg); x != row[len(by)+i] || e != api.OK {
					t.Fatalf("%v of %s: %s, %d; not as in %s", agg, written(alone), word(x), e, written(g))
				}
			}
		}
	})
}
