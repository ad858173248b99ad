package scope_test

import (
	"math"
	"math/rand/v2"
	"slices"
	"strings"
	"testing"

	"legation/api"
	"legation/scope"
)

// listed tells the names that a text has, with blanks between.
func listed(s string) []string { return strings.Fields(s) }

// P7.2: each kind, alone or nested, written out: what is in scope, what is certain, and the first place, of the last operation.
func TestBrought(t *testing.T) {
	x, y, a := variable("x"), variable("y"), iri("a")
	xy, yz := basic("x", "y"), basic("y", "z")
	some := given([]string{"y", "z"}, []api.Term{a, {}}, []api.Term{a, a})
	for _, one := range []struct {
		c                []api.Op
		inScope, certain string
		from             int
	}{
		{[]api.Op{patterns()}, "", "", 0},
		{[]api.Op{patterns(triple(a, a, a))}, "", "", 0},
		{[]api.Op{patterns(triple(x, a, y))}, "x y", "x y", 0},
		{[]api.Op{patterns(triple(y, x, y), triple(a, a, x), triple(variable("b"), a, x))}, "b x y", "b x y", 0},
		{[]api.Op{given(nil)}, "", "", 0},
		{[]api.Op{given(nil, nil, nil)}, "", "", 0},
		{[]api.Op{given([]string{"z", "y"})}, "y z", "y z", 0},
		{[]api.Op{some}, "y z", "y", 0},
		{[]api.Op{given([]string{"z", "y", "x"}, []api.Term{a, a, a}, []api.Term{{}, a, a}, []api.Term{a, {}, a})}, "x y z", "x", 0},
		{[]api.Op{given([]string{"y", "x"}, []api.Term{literal(""), iri("0")}, []api.Term{{Kind: api.Literal, Lang: "en"}, a})}, "x y", "x y", 0},
		{[]api.Op{xy, yz, of(api.OJoin)}, "x y z", "x y z", 0},
		{[]api.Op{xy, some, of(api.OJoin)}, "x y z", "x y", 0},
		{[]api.Op{some, xy, of(api.OJoin)}, "x y z", "x y", 0},
		{[]api.Op{some, yz, of(api.OJoin)}, "y z", "y z", 0},
		{[]api.Op{xy, yz, of(api.OUnion)}, "x y z", "y", 0},
		{[]api.Op{yz, some, of(api.OUnion)}, "y z", "y", 0},
		{[]api.Op{some, yz, of(api.OUnion)}, "y z", "y", 0},
		{[]api.Op{xy, basic("z"), of(api.OUnion)}, "x y z", "", 0},
		{[]api.Op{xy, basic(), of(api.OUnion)}, "x y", "", 0},
		{[]api.Op{basic("x"), given([]string{"z"}), of(api.OLeft)}, "x z", "x", 0},
		{[]api.Op{xy, yz, of(api.OLeft)}, "x y z", "x y", 0},
		{[]api.Op{xy, yz, left(asked("w"))}, "x y z", "x y", 0},
		{[]api.Op{some, xy, of(api.OLeft)}, "x y z", "y", 0},
		{[]api.Op{some, yz, left(asked("z"))}, "y z", "y", 0},
		{[]api.Op{xy, yz, of(api.OMinus)}, "x y", "x y", 0},
		{[]api.Op{some, xy, of(api.OMinus)}, "y z", "y", 0},
		{[]api.Op{some, filter("z")}, "y z", "y", 0},
		{[]api.Op{xy, filter("z")}, "x y", "x y", 0},
		{[]api.Op{some, extend("a")}, "a y z", "y", 0},
		{[]api.Op{xy, extend("z")}, "x y z", "x y", 0},
		{[]api.Op{basic(), extend("z")}, "z", "", 0},
		{[]api.Op{some, service("e")}, "y z", "y", 0},
		{[]api.Op{xy, service("e")}, "x y", "x y", 0},
		{[]api.Op{xy, silent("e")}, "x y", "", 0},
		{[]api.Op{basic(), silent("e")}, "", "", 0},
		{[]api.Op{xy, silent("e"), filter("x"), extend("z")}, "x y z", "", 0},
		{[]api.Op{basic("x"), xy, silent("e"), of(api.OJoin)}, "x y", "x", 0},
		{[]api.Op{xy, silent("e"), yz, of(api.OLeft)}, "x y z", "", 0},
		{[]api.Op{xy, yz, silent("e"), of(api.OLeft)}, "x y z", "x y", 0},
		{[]api.Op{xy, yz, silent("e"), of(api.OUnion)}, "x y z", "", 0},
		{[]api.Op{basic("x"), extend("z"), basic("x"), extend("z"), of(api.OJoin)}, "x z", "x", 0},
		{[]api.Op{basic("x"), extend("z"), basic("z"), of(api.OJoin)}, "x z", "x z", 0},
		{[]api.Op{basic("x"), extend("z"), basic("z"), of(api.OUnion)}, "x z", "", 0},
		{[]api.Op{basic("w"), xy, yz, of(api.OUnion), of(api.OMinus), basic("y"), of(api.OJoin)}, "w y", "w y", 0},
		{[]api.Op{xy, yz, basic("z", "w"), of(api.OLeft), of(api.OUnion), filter("a"), silent("e"), basic("v"), of(api.OJoin), extend("u")}, "u v w x y z", "v", 0},
	} {
		checkBrought(t, one.c, len(one.c)-1, listed(one.inScope), listed(one.certain), one.from)
		shifted := append([]api.Op{basic("other")}, one.c...) // the same behind something else
		shifted = append(shifted, of(api.OMinus))
		checkBrought(t, shifted, len(one.c), listed(one.inScope), listed(one.certain), one.from+1)
		checkBrought(t, shifted, len(one.c)+1, []string{"other"}, []string{"other"}, 0)
	}
}

// P7.2: each place of a code, and places that are none.
func TestPlaces(t *testing.T) {
	c := []api.Op{basic("x"), basic("y"), given([]string{"z"}, []api.Term{{}}), of(api.OUnion), of(api.OLeft), basic("b"), extend("a"), silent("e"), of(api.OJoin)}
	for i, one := range []struct {
		inScope, certain string
		from             int
	}{
		{"x", "x", 0}, {"y", "y", 1}, {"z", "", 2}, {"y z", "", 1}, {"x y z", "x", 0}, {"b", "b", 5}, {"a b", "b", 5}, {"a b", "", 5}, {"a b x y z", "x", 0},
	} {
		checkBrought(t, c, i, listed(one.inScope), listed(one.certain), one.from)
	}
	checkParts(t, c)
	for _, c := range [][]api.Op{c, c[:1], filters(api.MaxOps)} {
		for _, i := range []int{-1, -2, len(c), len(c) + 1, math.MinInt, math.MaxInt, 1 << 32, -1 << 32} {
			if l, e := scope.InScope(c, i); len(l) != 0 || e != api.ErrRange {
				t.Errorf("in scope at %d: %q %d", i, l, e)
			}
			if l, e := scope.Certain(c, i); len(l) != 0 || e != api.ErrRange {
				t.Errorf("certain at %d: %q %d", i, l, e)
			}
			if n, e := scope.From(c, i); n != 0 || e != api.ErrRange {
				t.Errorf("from %d: %d %d", i, n, e)
			}
		}
	}
}

// P7.2: names stand byte by byte rising, wherever they come from.
func TestNamesInOrder(t *testing.T) {
	r, all := rand.New(rand.NewPCG(7, 2)), names()
	for range 60 {
		r.Shuffle(len(all), func(i, j int) { all[i], all[j] = all[j], all[i] })
		checkBrought(t, []api.Op{basic(all...)}, 0, names(), names(), 0)
		checkBrought(t, []api.Op{given(all)}, 0, names(), names(), 0)
		checkBrought(t, []api.Op{basic(all[:5]...), given(all[3:]), of(api.OJoin)}, 2, names(), names(), 0)
		part := slices.Sorted(slices.Values(all[3:5]))
		checkBrought(t, []api.Op{basic(all[:5]...), given(all[3:]), of(api.OUnion)}, 2, names(), part, 0)
		checkBrought(t, []api.Op{basic(all[1:]...), extend(all[0])}, 1, names(), slices.Sorted(slices.Values(all[1:])), 0)
	}
}

// P7.2: as many variables as may be: of the largest OBasics and OTables, as many as a code has room for.
func TestManyNames(t *testing.T) {
	var c []api.Op
	for i := range 64 {
		var l []api.Triple
		for j := range 32 {
			v := numbered(3*(32*i+j), 3)
			l = append(l, triple(variable(v[0]), variable(v[1]), variable(v[2])))
		}
		c = append(c, patterns(l...))
		if i > 0 {
			c = append(c, of(api.OJoin))
		}
	}
	want := sortedNames(c)
	if len(want) != 96*64 {
		t.Fatalf("%d names", len(want))
	}
	checkBrought(t, c, len(c)-1, want, want, 0)
	united := slices.DeleteFunc(slices.Clone(c), func(o api.Op) bool { return o.Kind == api.OJoin })
	n := len(united)
	united = append(united, slices.Repeat([]api.Op{of(api.OUnion)}, n-1)...)
	checkBrought(t, united, len(united)-1, want, nil, 0)
	checkBrought(t, united, n, sortedNames(united[n-2:n]), nil, n-2)
	table := []api.Op{given(numbered(0, api.MaxVars), slices.Repeat([][]api.Term{make([]api.Term, api.MaxVars)}, api.MaxBatch)...)}
	checkBrought(t, table, 0, slices.Sorted(slices.Values(numbered(0, api.MaxVars))), nil, 0)
}

// sortedNames tells the variables of some OBasics, in order.
func sortedNames(c []api.Op) []string {
	var l []string
	for _, o := range c {
		for _, x := range o.Triples {
			l = append(l, x.S.Text, x.P.Text, x.O.Text)
		}
	}
	slices.Sort(l)
	return slices.Compact(l)
}

// cloned tells a copy of a code that shares no list with it.
func cloned(c []api.Op) []api.Op {
	l := slices.Clone(c)
	for i, o := range c {
		l[i].Triples, l[i].Formula = slices.Clone(o.Triples), slices.Clone(o.Formula)
		l[i].Table.Vars, l[i].Table.Rows = slices.Clone(o.Table.Vars), slices.Clone(o.Table.Rows)
		for j, row := range o.Table.Rows {
			l[i].Table.Rows[j] = slices.Clone(row)
		}
	}
	return l
}

func sameOp(a, b api.Op) bool {
	tables := slices.Equal(a.Table.Vars, b.Table.Vars) && slices.EqualFunc(a.Table.Rows, b.Table.Rows, slices.Equal)
	return a.Kind == b.Kind && slices.Equal(a.Triples, b.Triples) && tables && slices.Equal(a.Formula, b.Formula) && a.Name == b.Name && a.Silent == b.Silent
}

// P7.1, P7.2: what is handed in stays as it is, to the end of its room; what is answered is new, and the same each time.
func TestCodesUntouched(t *testing.T) {
	r := rand.New(rand.NewPCG(7, 3))
	for range 200 {
		c := grown(r, 30).code()
		c = append(c, given([]string{"x", "a"}, []api.Term{iri("a"), {}}), of(api.OJoin))
		room := append(c, slices.Repeat([]api.Op{of(-7)}, 9)...)
		for i := range room { // with room behind each list, too
			room[i].Triples = append(room[i].Triples, triple(iri("r"), iri("r"), iri("r")))[:len(room[i].Triples)]
			room[i].Table.Vars = append(room[i].Table.Vars, "room")[:len(room[i].Table.Vars)]
			room[i].Formula = append(room[i].Formula, asked("room")...)[:len(room[i].Formula)]
		}
		was, handed := cloned(room), room[:len(c)]
		for i := range handed {
			scope.Needs(handed[i])
			scope.Right(handed[i])
			a, e := scope.InScope(handed, i)
			b, f := scope.Certain(handed, i)
			m, n := slices.Clone(a), slices.Clone(b)
			for j := range a {
				a[j] = "!"
			}
			for j := range b {
				b[j] = "?"
			}
			if l, g := scope.InScope(handed, i); !slices.Equal(l, m) || g != e {
				t.Fatalf("%q %d; not %q %d", l, g, m, e)
			}
			if l, g := scope.Certain(handed, i); !slices.Equal(l, n) || g != f {
				t.Fatalf("%q %d; not %q %d", l, g, n, f)
			}
			scope.From(handed, i)
		}
		if !slices.EqualFunc(room, was, sameOp) {
			t.Fatalf("%s; not %s", brief(room), brief(was))
		}
		for i := range room {
			if n := len(room[i].Triples); room[i].Triples[:n+1][n].S.Text != "r" || room[i].Table.Vars[:len(room[i].Table.Vars)+1][len(room[i].Table.Vars)] != "room" {
				t.Fatalf("room behind a list of %s", brief(room[i]))
			}
		}
	}
}
