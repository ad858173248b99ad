package shape_test

import (
	"cmp"
	"math/rand/v2"
	"slices"
	"strings"
	"testing"

	"legation/api"
	"legation/shape"
)

// keysOf tells the keys of a text: names, of those that are Desc behind a hyphen.
func keysOf(s string) []api.Key {
	var l []api.Key
	for _, word := range strings.Fields(s) {
		name, desc := strings.CutPrefix(word, "-")
		l = append(l, api.Key{Name: name, Desc: desc})
	}
	return l
}

// The tests' own reading of the order of rows: key by key, as the chapter says, then column by column.
func (p places) rows(vars []string, keys []api.Key) func(a, b []api.Term) int {
	return func(a, b []api.Term) int {
		for _, k := range keys {
			i := slices.Index(vars, k.Name)
			if i < 0 {
				continue
			}
			if n := p.compare(a[i], b[i]); n != 0 && k.Desc {
				return -n
			} else if n != 0 {
				return n
			}
		}
		return slices.CompareFunc(a, b, p.compare)
	}
}

func (p places) order(a api.Table, keys []api.Key) api.Table {
	a.Rows = slices.Clone(a.Rows)
	slices.SortStableFunc(a.Rows, p.rows(a.Vars, keys))
	return a
}

// P12.1: the rows in order: by no key, by some, by some that are Desc, by those that are not there, and by those that stand twice.
func TestOrder(t *testing.T) {
	const a = "x y|10 <a>|9 -|<a> 1|- 1|10 <a>|10 <B>"
	for _, c := range [][3]string{
		{a, "", "x y|- 1|<a> 1|9 -|10 <B>|10 <a>|10 <a>"},
		{a, "x", "x y|- 1|<a> 1|9 -|10 <B>|10 <a>|10 <a>"}, {a, "-x", "x y|10 <B>|10 <a>|10 <a>|9 -|<a> 1|- 1"}, {a, "y", "x y|9 -|10 <B>|10 <a>|10 <a>|- 1|<a> 1"}, {a, "-y", "x y|- 1|<a> 1|10 <a>|10 <a>|10 <B>|9 -"},
		{a, "x y", "x y|- 1|<a> 1|9 -|10 <B>|10 <a>|10 <a>"}, {a, "x -y", "x y|- 1|<a> 1|9 -|10 <a>|10 <a>|10 <B>"}, {a, "-x -y", "x y|10 <a>|10 <a>|10 <B>|9 -|<a> 1|- 1"}, {a, "y -x", "x y|9 -|10 <B>|10 <a>|10 <a>|<a> 1|- 1"}, {a, "-y -x", "x y|<a> 1|- 1|10 <a>|10 <a>|10 <B>|9 -"},
		{a, "q", "x y|- 1|<a> 1|9 -|10 <B>|10 <a>|10 <a>"}, {a, "-q", "x y|- 1|<a> 1|9 -|10 <B>|10 <a>|10 <a>"}, {a, "q -x -z", "x y|10 <B>|10 <a>|10 <a>|9 -|<a> 1|- 1"}, {a, "-X x", "x y|- 1|<a> 1|9 -|10 <B>|10 <a>|10 <a>"},
		{a, "x x", "x y|- 1|<a> 1|9 -|10 <B>|10 <a>|10 <a>"}, {a, "x -x", "x y|- 1|<a> 1|9 -|10 <B>|10 <a>|10 <a>"}, {a, "-x x", "x y|10 <B>|10 <a>|10 <a>|9 -|<a> 1|- 1"}, {a, "-x q x -y y", "x y|10 <a>|10 <a>|10 <B>|9 -|<a> 1|- 1"},
		{"x|10|9|<a>|-", "", "x|-|<a>|9|10"}, {"x|10|9|<a>|-", "-x", "x|10|9|<a>|-"},
		{"x|1|01|1.0|2|1.5|0", "", "x|0|01|1|1.0|1.5|2"}, {"x|1|01|1.0|2|1.5|0", "-x", "x|2|1.5|1.0|1|01|0"}, {"x y|1 2|01 1|1.0 0", "x", "x y|01 1|1 2|1.0 0"}, {"x y|1 2|01 1|1.0 0", "y", "x y|1.0 0|01 1|1 2"},
		{`x|"b"|"a"@en|"a"|"1"|1|10|_:z|<a>|"a"@de|"a"^^<t>`, "x", `x|_:z|<a>|1|10|"1"|"a"|"a"@de|"a"@en|"a"^^<t>|"b"`},
		{"y x|1 2|2 1", "", "y x|1 2|2 1"}, {"y x|1 2|2 1", "x", "y x|2 1|1 2"}, {"y x|2 1|1 2", "", "y x|1 2|2 1"}, {"a b c|1 2 3|1 2 2|1 1 9|0 9 9", "a -b", "a b c|0 9 9|1 2 2|1 2 3|1 1 9"}, {"a b c|1 2 3|1 2 2|1 1 9|0 9 9", "-c b", "a b c|1 1 9|0 9 9|1 2 3|1 2 2"},
		{"x", "x", "x"}, {"", "x", ""}, {"|", "x", "|"}, {"|||", "-x", "|||"}, {"x|1", "-x", "x|1"}, {"x|1|1|1", "-x", "x|1|1|1"},
	} {
		got, e := shape.Order(of(t, c[0]), keysOf(c[1]))
		check(t, "by "+c[1], got, e, of(t, c[2]), of(t, c[0]))
	}
}

// P12.1: keys may be any: names that are none, and as many as you like.
func TestOrderAnyKeys(t *testing.T) {
	a := of(t, "x y|2 1|1 2|1 3")
	var l []api.Key
	for _, s := range wrongNames() {
		l = append(l, api.Key{Name: s}, api.Key{Name: s, Desc: true})
	}
	got, e := shape.Order(a, l)
	check(t, "by no names", got, e, of(t, "x y|1 2|1 3|2 1"), a)
	got, e = shape.Order(a, append(l, keysOf("y -x")...))
	check(t, "by y", got, e, of(t, "x y|2 1|1 2|1 3"), a)
	got, e = shape.Order(a, slices.Concat(keysOf("-y"), l, slices.Repeat(keysOf("y x"), 1<<16)))
	check(t, "by many", got, e, of(t, "x y|1 3|1 2|2 1"), a)

	full := sized([]string{"x"}, api.MaxRows, 0) // many rows that are alike, by many keys
	for i := range full.Rows {
		full.Rows[i] = full.Rows[i%2]
	}
	got, e = shape.Order(full, slices.Repeat(keysOf("x -x"), 1<<18))
	check(t, "by very many", got, e, placesOf([]api.Term{integer("0"), integer("1")}).order(full, nil), full)
}

// P12.1: each key of a table of MaxVars variables, and all of them.
func TestOrderMostVariables(t *testing.T) {
	r := rand.New(rand.NewPCG(12, 2))
	terms := []api.Term{{}, integer("9"), integer("10"), literal("x")}
	p := placesOf(terms)
	a := api.Table{Vars: columns("v", api.MaxVars)}
	for range 200 {
		var row []api.Term
		for range a.Vars {
			row = append(row, terms[r.IntN(len(terms))])
		}
		a.Rows = append(a.Rows, row)
	}
	for _, v := range a.Vars {
		for _, s := range []string{v, "-" + v, "v31 -" + v, "-v0 v1 " + v} {
			got, e := shape.Order(a, keysOf(s))
			check(t, "by "+s, got, e, p.order(a, keysOf(s)), a)
		}
	}
	all := keysOf("-" + strings.Join(a.Vars, " -"))
	got, e := shape.Order(a, all)
	check(t, "by all", got, e, p.order(a, all), a)
}

// P12.1: MaxRows rows, of unlike numbers, backwards and in any order.
func TestOrderMostRows(t *testing.T) {
	r := rand.New(rand.NewPCG(12, 3))
	want := sized([]string{"x", "y"}, api.MaxRows, 0)
	back := api.Table{Vars: want.Vars, Rows: slices.Clone(want.Rows)}
	slices.Reverse(back.Rows)
	for _, a := range []api.Table{want, back, shuffled(r, want)} {
		got, e := shape.Order(a, nil)
		check(t, "by no key", got, e, want, a)
		got, e = shape.Order(a, keysOf("y -x"))
		check(t, "by y", got, e, want, a)
		got, e = shape.Order(a, keysOf("-y x"))
		check(t, "by -y", got, e, back, a)
	}
}

// someKeys tells some keys, of which some are not there and some stand twice.
func someKeys(r *rand.Rand) []api.Key {
	var l []api.Key
	for range r.IntN(6) {
		l = append(l, api.Key{Name: []string{"x", "y", "z", "w", "q", ""}[r.IntN(6)], Desc: r.IntN(2) == 0})
	}
	return l
}

// P12.1, P12.3: grown tables by grown keys, held against the chapter's words: no two rows stand the wrong way round, none is added or lost.
func TestOrderGrown(t *testing.T) {
	p := placesOf(rising())
	someTables(1, func(r *rand.Rand, a api.Table) {
		keys := someKeys(r)
		got, e := shape.Order(a, keys)
		check(t, "ordered", got, e, p.order(a, keys), a)
		compare := p.rows(a.Vars, keys)
		for i := range got.Rows {
			for j := range i {
				if compare(got.Rows[j], got.Rows[i]) > 0 {
					t.Fatalf("%v: %s: %d, %d", keys, written(got), j, i)
				}
			}
		}
		if !shape.Same(got, a) {
			t.Fatalf("%s: %s", written(a), written(got))
		}
	})
}

// P12.4: the same rows in another order come out the same, row by row; also by keys of which those that say nothing are left out.
func TestOrderHangsOnNothing(t *testing.T) {
	someTables(2, func(r *rand.Rand, a api.Table) {
		keys := someKeys(r)
		want, e := shape.Order(a, keys)
		for range 3 {
			b := shuffled(r, a)
			got, d := shape.Order(b, keys)
			check(t, "shuffled", got, cmp.Or(e, d), want, b)
		}
		var less []api.Key
		for i, k := range keys {
			if slices.Contains(a.Vars, k.Name) && !slices.ContainsFunc(keys[:i], func(l api.Key) bool { return l.Name == k.Name }) {
				less = append(less, k)
			}
		}
		got, e := shape.Order(a, less)
		check(t, "by less keys", got, e, want, a)
		got, e = shape.Order(want, keys)
		check(t, "again", got, e, want, a)
	})
}
