package scope_test

import (
	"math/rand/v2"
	"slices"
	"testing"

	"legation/api"
	"legation/scope"
)

// filters tells a code of n operations: an OBasic, and OFilters.
func filters(n int) []api.Op {
	return append([]api.Op{basic("x")}, slices.Repeat([]api.Op{filter("x")}, n-1)...)
}

// P7.1: no operations, too few results, and more than one left.
func TestCheckOfResults(t *testing.T) {
	x, y, join := basic("x"), basic("y"), of(api.OJoin)
	for _, c := range [][]api.Op{
		{x}, {x, y, join}, {x, y, of(api.OUnion)}, {x, y, of(api.OLeft)}, {x, y, of(api.OMinus)}, {x, filter("z")}, {x, extend("z")}, {x, service("e")}, {x, silent("e")},
		{x, y, x, join, join}, {x, y, join, x, join}, {x, filter("x"), y, of(api.OMinus), extend("z"), filter("z"), silent("e")}, {given(nil)}, {patterns()},
	} {
		if e := scope.Check(c); e != api.OK {
			t.Errorf("%s: %d", brief(c), e)
		}
	}
	for _, c := range [][]api.Op{
		nil, {}, {join}, {x, join}, {filter("x")}, {extend("z")}, {service("e")}, {of(api.OLeft)}, {of(api.OMinus), x}, {join, x, y}, {x, join, y}, {filter("x"), x},
		{x, y}, {x, x, x}, {x, y, x, join}, {x, y, filter("x")}, {x, y, join, y}, {x, y, join, join}, {x, y, join, join, y}, {x, filter("x"), of(api.OUnion), x},
	} {
		checkRefused(t, c, api.ErrForm)
	}
}

// P7.1: MaxOps operations, and more: ErrLong, whatever they are.
func TestCheckOfLongOnes(t *testing.T) {
	for _, n := range []int{1, 2, api.MaxOps - 1, api.MaxOps} {
		c := filters(n)
		if e := scope.Check(c); e != api.OK {
			t.Errorf("%d: %d", n, e)
		}
		checkBrought(t, c, n-1, []string{"x"}, []string{"x"}, 0)
	}
	checkRefused(t, filters(api.MaxOps+1), api.ErrLong)
	checkRefused(t, append(filters(api.MaxOps-1), service("e"), service("e")), api.ErrLong)
	checkRefused(t, append(filters(api.MaxOps-2), service("e"), service("e")), api.ErrForm)
	checkRefused(t, append(filters(api.MaxOps), extend("x")), api.ErrLong)
	checkRefused(t, append(filters(api.MaxOps-1), extend("x")), api.ErrScope)
	for _, o := range []api.Op{{}, of(-1), of(10), basic("x"), of(api.OJoin), filter(""), extend("x"), service("e")} {
		for _, n := range []int{api.MaxOps + 1, 1 << 16} {
			checkRefused(t, slices.Repeat([]api.Op{o}, n), api.ErrLong)
		}
		checkRefused(t, slices.Repeat([]api.Op{o}, api.MaxOps), api.ErrForm)
	}
}

// P7.1: an OService may be needed, but not by another one, not even with operations between; side by side they may stand.
func TestCheckOfServices(t *testing.T) {
	x, y, e, f := basic("x"), basic("y"), service("e"), silent("f")
	for _, c := range [][]api.Op{
		{x, e}, {x, f}, {x, e, filter("x")}, {x, e, extend("z")}, {x, y, e, of(api.OJoin)}, {x, e, y, of(api.OUnion)}, {x, y, f, of(api.OLeft)}, {x, y, e, of(api.OMinus)},
		{x, e, y, f, of(api.OJoin)}, {x, e, y, e, of(api.OLeft), x, f, of(api.OUnion)}, {x, e, y, x, of(api.OJoin), e, of(api.OJoin)}, {x, y, of(api.OJoin), e},
	} {
		if e := scope.Check(c); e != api.OK {
			t.Errorf("%s: %d", brief(c), e)
		}
	}
	for _, c := range [][]api.Op{
		{x, e, e}, {x, f, e}, {x, e, f}, {x, f, f}, {x, e, filter("x"), e}, {x, e, extend("z"), extend("w"), f}, {x, e, y, of(api.OJoin), f}, {x, y, f, of(api.OJoin), e},
		{x, y, e, of(api.OUnion), e}, {x, y, e, of(api.OLeft), e}, {x, y, e, of(api.OMinus), e}, {y, x, e, filter("x"), e, of(api.OJoin)}, {x, e, e, y, of(api.OJoin), filter("y")},
		{x, e, y, f, e, of(api.OJoin)},
	} {
		checkRefused(t, c, api.ErrForm)
	}
}

// P7.1: an OExtend's Name that is in scope in what it needs, certain or not: ErrScope, but where the code is none otherwise.
func TestCheckOfNames(t *testing.T) {
	x, y, none := basic("x"), basic("y"), given([]string{"z"}, []api.Term{{}})
	for _, c := range [][]api.Op{
		{x, extend("x")}, {none, extend("z")}, {x, y, of(api.OJoin), extend("y")}, {x, y, of(api.OUnion), extend("x")}, {x, y, of(api.OLeft), extend("y")}, {x, y, of(api.OMinus), extend("x")},
		{x, filter("z"), extend("x")}, {x, extend("z"), extend("z")}, {x, extend("z"), filter("x"), extend("z")}, {x, service("e"), extend("x")}, {x, silent("e"), extend("x")},
		{x, extend("x"), service("e")}, {x, extend("x"), y, of(api.OJoin)}, {y, x, extend("x"), of(api.OMinus)}, {x, extend("x"), extend("w")}, {patterns(triple(variable("a"), variable("b"), variable("c"))), extend("b")},
	} {
		checkRefused(t, c, api.ErrScope)
		wrong := filter("x")
		wrong.Name = "w"
		for _, l := range [][]api.Op{{{}}, {wrong}, {of(api.OJoin)}, {basic()}, {service("e"), service("e")}, {extend("")}} {
			checkRefused(t, append(slices.Clip(c), l...), api.ErrForm)
			checkRefused(t, slices.Concat(c, l, []api.Op{filter("x")}), api.ErrForm)
		}
		checkRefused(t, append([]api.Op{x}, c...), api.ErrForm)
		checkRefused(t, append(slices.Clip(c), filters(api.MaxOps)...), api.ErrLong)
	}
	for _, c := range [][]api.Op{
		{x, extend("y")}, {x, extend("X")}, {x, extend("xx")}, {x, extend("z"), extend("w")}, {x, y, of(api.OMinus), extend("y")}, {basic(), extend("x")}, {given(nil), extend("x")},
		{x, y, extend("x"), of(api.OJoin)}, {x, extend("z"), y, extend("z"), of(api.OJoin)}, {x, filter("z"), extend("z")}, {x, extend("q")}, {x, y, left(asked("z")), extend("z")},
	} {
		if e := scope.Check(c); e != api.OK {
			t.Errorf("%s: %d", brief(c), e)
		}
	}
}

// P7.1, P7.2: each short row of a few operations, held against the tree that is read from its end.
func TestEachShortRow(t *testing.T) {
	few := []api.Op{basic("x"), given([]string{"x", "b"}, []api.Term{iri("a"), {}}), of(api.OJoin), of(api.OUnion), of(api.OLeft), of(api.OMinus), filter("x"), extend("b"), service("e"), silent("e"), of(0)}
	count := map[api.Errno]int{}
	every(few, 5, func(c []api.Op) {
		x, ahead := planted(c)
		want := api.ErrForm
		if ahead == 0 {
			want = errorOf(x)
		}
		count[want]++
		if want != api.OK {
			if e := scope.Check(c); e != want {
				t.Fatalf("%s: %d; not %d", brief(c), e, want)
			}
			return
		}
		checkTree(t, x)
	})
	if count[api.OK] < 500 || count[api.ErrScope] < 100 {
		t.Errorf("%v", count)
	}
}

// checkTree holds what is told of a tree whose code is right, at each place.
func checkTree(t *testing.T, x tree) {
	t.Helper()
	c := x.code()
	if e := scope.Check(c); e != api.OK {
		t.Fatalf("%s: %d", brief(c), e)
	}
	x.each(0, func(part tree, from, at int) {
		checkBrought(t, c, at, those(part.brings), those(part.binds), from)
	})
	if t.Failed() {
		t.FailNow()
	}
}

// P7.1 to P7.4: codes of any size.
func TestGrown(t *testing.T) {
	r := rand.New(rand.NewPCG(7, 1))
	count := map[api.Errno]int{}
	for i := range 1500 {
		x := grown(r, 1+i*7%40)
		want := errorOf(x)
		count[want]++
		if want != api.OK {
			checkRefused(t, x.code(), want)
			continue
		}
		checkTree(t, x)
		checkParts(t, x.code())
		checkRefused(t, x.code()[1:], api.ErrForm)
	}
	if count[api.OK] < 500 || count[api.ErrScope] < 50 || count[api.ErrForm] < 50 {
		t.Errorf("%v", count)
	}
}

// checkParts holds what follows, at each place of a code: what is certain is in scope, and the operations from From on are a code by themselves, with the same variables.
func checkParts(t *testing.T, c []api.Op) {
	t.Helper()
	for i := range c {
		in, _ := scope.InScope(c, i)
		certain, _ := scope.Certain(c, i)
		from, e := scope.From(c, i)
		if e != api.OK || from < 0 || from > i {
			t.Fatalf("%s: from %d: %d %d", brief(c), i, from, e)
		}
		for _, s := range certain {
			if !slices.Contains(in, s) {
				t.Fatalf("%s at %d: %s is not in scope", brief(c), i, s)
			}
		}
		part := c[from : i+1]
		if e := scope.Check(part); e != api.OK {
			t.Fatalf("%s: %d", brief(part), e)
		}
		checkBrought(t, part, i-from, in, certain, 0)
	}
	if t.Failed() {
		t.FailNow()
	}
}
