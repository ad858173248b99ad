package engine_test

import (
	"math/rand/v2"
	"slices"
	"testing"

	"legation/api"
	"legation/engine"
	"legation/scope"
	"legation/store"
	"legation/table"
)

// someWorld has a base, and named stores that are unlike it; e1 stands twice, e2 is nil.
func someWorld(t *testing.T) engine.World {
	t.Helper()
	w := worldOf(t, "a k b|b k c|a n 1|b n 2", "e0", "c k d|a n 5", "e1", "d k e", "e1", "x k y", "e2", "")
	w.Stores[3] = nil
	return w
}

// checkCode holds what a code comes to over a world, and that the tests' own reading says the same.
func checkCode(t *testing.T, w engine.World, c []api.Op, want string) {
	t.Helper()
	got, e := engine.Code(w, c)
	check(t, c, got, e, of(t, want))
	p, _ := plainCode(w, c)
	check(t, c, p.table(), api.OK, of(t, want))
}

// P14.1: an operation that needs nothing.
func TestCodeOfOne(t *testing.T) {
	w := someWorld(t)
	for s, want := range map[string]string{"": "|", "?x k ?y": "x y|a b|b c", "?y n ?x|?z k ?y": "y x z|b 2 a", "a k b": "|", "a k c": "", "?x q ?y": "x y"} {
		checkCode(t, w, []api.Op{basic(t, s)}, want)
	}
	for _, s := range []string{"", "|", "||", "x", "x|-", "x y|a 1|- -|a 1", `y x|"a"@en 1.0|b -`} {
		checkCode(t, w, []api.Op{given(t, s)}, s)
	}
}

// P14.1: what needs one.
func TestCodeOfTwo(t *testing.T) {
	w := someWorld(t)
	for f, want := range map[string]string{"?y > 1": "x y|b 2", "?x = <a>": "x y|a 1", "TRUE": "x y|a 1|b 2", "?x > 1": "x y", "BOUND(?z)": "x y", "?z = 1 || TRUE": "x y|a 1|b 2"} {
		checkCode(t, w, []api.Op{basic(t, "?x n ?y"), by(t, api.OFilter, f)}, want)
	}
	for f, want := range map[string]string{"?y + 1": "x y z|a 1 2|b 2 3", "999999998 + ?y": "x y z|a 1 999999999|b 2 -", "?z": "x y z|a 1 -|b 2 -", "<c>": "x y z|a 1 c|b 2 c", "1 / (?y - 1)": "x y z|a 1 -|b 2 1.0"} {
		checkCode(t, w, []api.Op{basic(t, "?x n ?y"), extend(t, "z", f)}, want)
	}
}

// P14.1: what needs two: the first one first.
func TestCodeOfThree(t *testing.T) {
	w := someWorld(t)
	k, n := basic(t, "?x k ?y"), basic(t, "?x n ?z")
	given := given(t, "x u|a 7|c 8|- 9")
	for _, x := range []struct {
		c    []api.Op
		want string
	}{
		{[]api.Op{k, n, join}, "x y z|a b 1|b c 2"},
		{[]api.Op{n, k, join}, "x z y|a 1 b|b 2 c"},
		{[]api.Op{k, given, join}, "x y u|a b 7|a b 9|b c 9"},
		{[]api.Op{given, k, join}, "x u y|a 7 b|a 9 b|b 9 c"},
		{[]api.Op{k, n, union}, "x y z|a b -|b c -|a - 1|b - 2"},
		{[]api.Op{n, k, union}, "x z y|a 1 -|b 2 -|a - b|b - c"},
		{[]api.Op{k, k, union}, "x y|a b|b c|a b|b c"},
		{[]api.Op{k, given, minus}, "x y|b c"},
		{[]api.Op{given, k, minus}, "x u|c 8|- 9"},
		{[]api.Op{k, basic(t, "a n 1"), minus}, "x y|a b|b c"},
		{[]api.Op{k, basic(t, "?y n ?z"), left}, "x y z|a b 2|b c -"},
		{[]api.Op{basic(t, "?y n ?z"), k, left}, "y z x|a 1 -|b 2 a"},
		{[]api.Op{k, n, by(t, api.OLeft, "?z > 1")}, "x y z|a b -|b c 2"},
		{[]api.Op{k, n, by(t, api.OLeft, "?y = <b>")}, "x y z|a b 1|b c -"},
		{[]api.Op{k, n, by(t, api.OLeft, "?q > 1")}, "x y z|a b -|b c -"},
		{[]api.Op{given, k, left}, "x u y|a 7 b|c 8 -|a 9 b|b 9 c"},
	} {
		checkCode(t, w, x.c, x.want)
	}
}

// P14.1: operations one behind the other, and in one another.
func TestCodeOfMore(t *testing.T) {
	w := someWorld(t)
	k, n, z := basic(t, "?x k ?y"), basic(t, "?x n ?z"), given(t, "z|1|3")
	for _, x := range []struct {
		c    []api.Op
		want string
	}{
		{[]api.Op{k, n, z, join, left}, "x y z|a b 1|b c -"},
		{[]api.Op{k, n, left, z, join}, "x y z|a b 1"},
		{[]api.Op{k, n, z, minus, join}, "x y z|b c 2"},
		{[]api.Op{k, n, join, z, minus}, "x y z|b c 2"},
		{[]api.Op{k, n, z, union, minus}, "x y"},
		{[]api.Op{z, n, k, minus, union}, "z x|1 -|3 -"},
		{[]api.Op{k, n, z, join, join, extend(t, "u", "?z + 1"), by(t, api.OFilter, "?u = 2"), extend(t, "v", "?u")}, "x y z u v|a b 1 2 2"},
		{[]api.Op{z, z, z, z, z, minus, union, union, union}, "z|1|3|1|3|1|3"},
		{[]api.Op{z, z, minus, z, z, minus, union, z, left}, "z"},
		{[]api.Op{k, by(t, api.OFilter, "?x = <b>"), n, by(t, api.OFilter, "?z < 2"), union}, "x y z|b c -|a - 1"},
	} {
		checkCode(t, w, x.c, x.want)
	}
	checkCode(t, w, codeOf(t, "{ ?x <k> ?y . OPTIONAL { ?y <n> ?z . FILTER ( ?x = <a> ) } MINUS { ?x <n> ?w . FILTER ( ?w = 2 ) } BIND ( ?z * 2 AS ?u ) FILTER ( ?u > 3 ) }"), "x y z u|a b 2 4")
	checkCode(t, w, codeOf(t, "{ { ?x <k> ?y . } UNION { ?y <n> ?x . } UNION { } VALUES ( ?x ) { ( <b> ) ( UNDEF ) } }"), "x y|a b|b c|b c|1 a|2 b|b -|- -")
	checkCode(t, w, codeOf(t, "{ }"), "|")
}

// P14.1: a service's operations are of the store that it names: the first one of its name, a nil one without triples.
func TestCodeOfServices(t *testing.T) {
	w := someWorld(t)
	k := basic(t, "?x k ?y")
	for name, want := range map[string]string{"e0": "x y|c d", "e1": "x y|d e", "e2": "x y"} {
		checkCode(t, w, []api.Op{k, service(name)}, want)
		checkCode(t, w, []api.Op{k, silent(name)}, want)
		checkCode(t, w, []api.Op{basic(t, ""), service(name)}, "|")
		checkCode(t, w, []api.Op{given(t, "x|a|-"), silent(name)}, "x|a|-")
	}
	w.Names, w.Stores = []string{"e1", "e0", "e1"}, []*store.Store{nil, w.Base, w.Stores[1]}
	checkCode(t, w, []api.Op{k, service("e1")}, "x y")
	checkCode(t, w, []api.Op{k, service("e0")}, "x y|a b|b c")
	w.Base = nil
	checkCode(t, w, []api.Op{k, service("e0")}, "x y|a b|b c")
}

// P14.1: all that a service needs is of its store, what stands ahead of it and behind it of the base.
func TestCodeAroundServices(t *testing.T) {
	w := someWorld(t)
	k, n := basic(t, "?x k ?y"), basic(t, "?u n ?v")
	for _, x := range []struct {
		c    []api.Op
		want string
	}{
		{[]api.Op{k, n, join, service("e0")}, "x y u v|c d a 5"},
		{[]api.Op{k, n, service("e0"), join}, "x y u v|a b a 5|b c a 5"},
		{[]api.Op{k, service("e0"), n, join}, "x y u v|c d a 1|c d b 2"},
		{[]api.Op{k, service("e0"), n, service("e0"), join}, "x y u v|c d a 5"},
		{[]api.Op{k, service("e0"), k, service("e1"), union}, "x y|c d|d e"},
		{[]api.Op{k, k, service("e1"), k, service("e0"), k, union, union, union}, "x y|a b|b c|d e|c d|a b|b c"},
		{[]api.Op{k, service("e0"), basic(t, "?y k ?z"), service("e1"), join, n, left}, "x y z u v|c d e a 1|c d e b 2"},
		{[]api.Op{k, basic(t, "?y k ?z"), service("e0"), left}, "x y z|a b -|b c d"},
		{[]api.Op{k, basic(t, "?x k ?y"), service("e2"), minus}, "x y|a b|b c"},
		{[]api.Op{k, given(t, "x|d"), join, service("e1"), by(t, api.OFilter, "?y = <e>"), k, union}, "x y|d e|a b|b c"},
		{[]api.Op{n, extend(t, "w", "?v"), by(t, api.OFilter, "?w > 2"), service("e0"), n, union}, "u v w|a 5 5|a 1 -|b 2 -"},
		{[]api.Op{k, k, minus, n, left, service("e0")}, "x y u v"},
	} {
		checkCode(t, w, x.c, x.want)
	}
}

// P14.1: a store that is not there: of a Silent service one row that binds nothing, of another one ErrNone, whatever it needs, and wherever it stands.
func TestCodeOfMissing(t *testing.T) {
	w := someWorld(t)
	k := basic(t, "?x k ?y")
	for _, w := range []engine.World{w, {}, {Base: w.Base}, {Base: w.Base, Names: []string{}, Stores: []*store.Store{}}} {
		for _, name := range []string{"e9", "E0", "e", "e00", "http://e0", "*"} {
			for _, needed := range [][]api.Op{{k}, {basic(t, "")}, {given(t, "z|1")}, {k, k, union, by(t, api.OFilter, "TRUE")}} {
				got, e := engine.Code(w, append(slices.Clone(needed), service(name)))
				refused(t, name, got, e, api.ErrNone)
				checkCode(t, w, append(slices.Clone(needed), silent(name)), "|")
			}
		}
	}
	checkCode(t, w, []api.Op{k, k, silent("e9"), join}, "x y|a b|b c")
	checkCode(t, w, []api.Op{k, silent("e9"), k, join}, "x y|a b|b c")
	checkCode(t, w, []api.Op{k, silent("e9"), basic(t, "?x n ?y"), left}, "x y|a 1|b 2")
	checkCode(t, w, []api.Op{k, basic(t, "?x n ?z"), silent("e9"), left}, "x y|a b|b c")
	checkCode(t, w, []api.Op{k, k, silent("e9"), minus}, "x y|a b|b c")
	checkCode(t, w, []api.Op{k, silent("e9"), k, minus}, "|")
	checkCode(t, w, []api.Op{k, silent("e9"), k, union}, "x y|- -|a b|b c")
	checkCode(t, w, []api.Op{k, silent("e9"), by(t, api.OFilter, "! BOUND(?x)"), extend(t, "z", "COALESCE(?x,1)")}, "z|1")
	checkCode(t, w, []api.Op{k, silent("e9"), k, service("e0"), union}, "x y|- -|c d")
}

// P14.1: fewer names than stores, or fewer stores than names: just those are there that have both.
func TestCodeOfUnevenWorlds(t *testing.T) {
	k := basic(t, "?x k ?y")
	w := someWorld(t)
	for n := range len(w.Names) + 1 {
		for m := range len(w.Stores) + 1 {
			v := engine.World{Base: w.Base, Names: w.Names[:n:n], Stores: w.Stores[:m:m]}
			for i, name := range []string{"e0", "e1", "", "e2"} {
				if name == "" {
					continue
				}
				got, e := engine.Code(v, []api.Op{k, service(name)})
				if i >= min(n, m) {
					refused(t, name, got, e, api.ErrNone)
					checkSilent(t, v, name)
				} else {
					check(t, name, got, e, of(t, map[string]string{"e0": "x y|c d", "e1": "x y|d e", "e2": "x y"}[name]))
				}
			}
		}
	}
}

func checkSilent(t *testing.T, w engine.World, name string) {
	t.Helper()
	got, e := engine.Code(w, []api.Op{basic(t, "?x k ?y"), silent(name)})
	check(t, name, got, e, table.Unit())
}

// P14.1: of grown codes what the chapter says: a table, or the first error.
func TestCodeGrown(t *testing.T) {
	r := rand.New(rand.NewPCG(14, 2))
	count := map[api.Errno]int{}
	rows := 0
	for range 3000 {
		w, c := grownWorld(t, r), rightCode(t, r, 9)
		want, wanted := plainCode(w, c)
		got, e := engine.Code(w, c)
		told(t, c, got, e, want.table(), wanted)
		count[e]++
		rows += len(got.Rows)
	}
	if count[api.OK] < 2000 || count[api.ErrNone] < 100 || count[api.ErrLong] < 5 || rows < 3000 {
		t.Errorf("%v, %d rows", count, rows)
	}
}

// P14.1: a result's variables are those in scope, but where a Silent service came to nothing.
func TestCodeInScope(t *testing.T) {
	r := rand.New(rand.NewPCG(14, 3))
	for range 1000 {
		w, c := grownWorld(t, r), rightCode(t, r, 6)
		got, e := engine.Code(w, c)
		names, _ := scope.InScope(c, len(c)-1)
		silents := slices.ContainsFunc(c, func(o api.Op) bool { return o.Silent })
		if e == api.OK && !silents && !slices.Equal(slices.Sorted(slices.Values(got.Vars)), names) {
			t.Fatalf("%s: %s; not %q", brief(c), written(got), names)
		}
	}
}
