package scope_test

import (
	"fmt"
	"math/rand/v2"
	"slices"
	"testing"

	"legation/api"
	"legation/scope"
)

// The tests' own reading of the chapter: a code as a tree, of which it is asked, variable by variable, what is in scope and what is certain. It leans on the layers below alone.

func iri(s string) api.Term      { return api.Term{Kind: api.Iri, Text: s} }
func literal(s string) api.Term  { return api.Term{Kind: api.Literal, Text: s} }
func blank(s string) api.Term    { return api.Term{Kind: api.Blank, Text: s} }
func variable(s string) api.Term { return api.Term{Kind: api.Var, Text: s} }

func triple(s, p, o api.Term) api.Triple { return api.Triple{S: s, P: p, O: o} }

// asked tells the formula of a variable.
func asked(name string) []api.Part { return []api.Part{{Kind: api.XVar, Name: name}} }

func of(kind int) api.Op              { return api.Op{Kind: kind} }
func patterns(l ...api.Triple) api.Op { return api.Op{Kind: api.OBasic, Triples: l} }
func filter(name string) api.Op       { return api.Op{Kind: api.OFilter, Formula: asked(name)} }
func extend(name string) api.Op       { return api.Op{Kind: api.OExtend, Formula: asked("q"), Name: name} }
func service(name string) api.Op      { return api.Op{Kind: api.OService, Name: name} }
func silent(name string) api.Op       { return api.Op{Kind: api.OService, Name: name, Silent: true} }
func left(f []api.Part) api.Op        { return api.Op{Kind: api.OLeft, Formula: f} }
func given(v []string, r ...[]api.Term) api.Op {
	return api.Op{Kind: api.OTable, Table: api.Table{Vars: v, Rows: r}}
}

// basic tells an OBasic of a pattern for each name, of which that is a variable.
func basic(names ...string) api.Op {
	var l []api.Triple
	for _, s := range names {
		l = append(l, triple(variable(s), iri("a"), literal(s)))
	}
	return patterns(l...)
}

// plainNeeds tells how many each kind needs.
func plainNeeds(kind int) int {
	if kind < 1 || kind > 9 {
		return -1
	}
	return []int{0, 0, 2, 2, 2, 2, 1, 1, 1}[kind-1]
}

// tree is an operation and what it needs.
type tree struct {
	op     api.Op
	needed []tree
}

// code lays a tree out, each operation behind what it needs.
func (x tree) code() []api.Op {
	var c []api.Op
	for _, y := range x.needed {
		c = append(c, y.code()...)
	}
	return append(c, x.op)
}

// each goes over a tree's parts in their order in its code; from is the place of the first operation of a part. It tells how many operations there are.
func (x tree) each(n int, told func(part tree, from, at int)) int {
	at := n
	for _, y := range x.needed {
		at = y.each(at, told)
	}
	told(x, n, at)
	return at + 1
}

// hasService tells whether there is an OService.
func (x tree) hasService() bool {
	return x.op.Kind == api.OService || slices.ContainsFunc(x.needed, tree.hasService)
}

// nested tells whether an OService is among those that another one needs.
func (x tree) nested() bool {
	inside := x.op.Kind == api.OService && slices.ContainsFunc(x.needed, tree.hasService)
	return inside || slices.ContainsFunc(x.needed, tree.nested)
}

// clashes tells whether an OExtend's Name is in scope in what it needs.
func (x tree) clashes() bool {
	here := x.op.Kind == api.OExtend && x.needed[0].brings(x.op.Name)
	return here || slices.ContainsFunc(x.needed, tree.clashes)
}

// brings tells whether a variable is in scope.
func (x tree) brings(v string) bool {
	switch x.op.Kind {
	case api.OBasic:
		return slices.ContainsFunc(x.op.Triples, func(t api.Triple) bool {
			return slices.Contains([]api.Term{t.S, t.P, t.O}, variable(v))
		})
	case api.OTable:
		return slices.Contains(x.op.Table.Vars, v)
	case api.OMinus:
		return x.needed[0].brings(v)
	case api.OExtend:
		return x.op.Name == v || x.needed[0].brings(v)
	}
	return slices.ContainsFunc(x.needed, func(y tree) bool { return y.brings(v) })
}

// binds tells whether a variable is certain.
func (x tree) binds(v string) bool {
	switch x.op.Kind {
	case api.OBasic:
		return x.brings(v)
	case api.OTable:
		column := slices.Index(x.op.Table.Vars, v)
		if column < 0 {
			return false
		}
		for _, row := range x.op.Table.Rows {
			if row[column] == (api.Term{}) {
				return false
			}
		}
		return true
	case api.OJoin:
		return x.needed[0].binds(v) || x.needed[1].binds(v)
	case api.OUnion:
		return x.needed[0].binds(v) && x.needed[1].binds(v)
	case api.OService:
		return !x.op.Silent && x.needed[0].binds(v)
	}
	return x.needed[0].binds(v)
}

// names are the variables of grown codes, in order, byte by byte: no two of them side by side are so in each order that letters may have.
func names() []string {
	return []string{"B", "Z", "a", "a0", "a10", "a9", "aB", "a_", "aa", "b", "x"}
}

// those tells which of the names are so.
func those(so func(v string) bool) []string {
	return slices.DeleteFunc(names(), func(v string) bool { return !so(v) })
}

// planted tells the tree of a code that is taken from its end on, and how many operations stand ahead of it; a negative number, if there is none.
func planted(c []api.Op) (tree, int) {
	if len(c) == 0 {
		return tree{}, -1
	}
	x, ahead := tree{op: c[len(c)-1]}, len(c)-1
	n := plainNeeds(x.op.Kind)
	if n < 0 {
		return tree{}, -1
	}
	for range n {
		y, m := planted(c[:ahead])
		if m < 0 {
			return tree{}, -1
		}
		x.needed, ahead = slices.Insert(x.needed, 0, y), m
	}
	return x, ahead
}

// leaf tells some operation that needs nothing, with some of the names.
func leaf(r *rand.Rand) api.Op {
	all := names()
	r.Shuffle(len(all), func(i, j int) { all[i], all[j] = all[j], all[i] })
	some := all[:r.IntN(4)]
	if r.IntN(2) == 0 {
		return basic(some...)
	}
	var rows [][]api.Term
	for range r.IntN(3) {
		var row []api.Term
		for range some {
			row = append(row, []api.Term{iri("a"), literal("a"), {Kind: api.Literal, Text: "1", Type: api.TypeInteger}, {}}[r.IntN(4)])
		}
		rows = append(rows, row)
	}
	return given(some, rows...)
}

// grown tells some tree of at most n operations, each right by itself; its code is most often right.
func grown(r *rand.Rand, n int) tree {
	if n <= 1 {
		return tree{op: leaf(r)}
	}
	if n == 2 || r.IntN(2) == 0 {
		x := grown(r, n-1)
		return tree{above(r, x), []tree{x}}
	}
	k := 1 + r.IntN(n-2)
	ops := []api.Op{of(api.OJoin), of(api.OUnion), of(api.OLeft), left(asked("x")), of(api.OMinus)}
	return tree{ops[r.IntN(len(ops))], []tree{grown(r, k), grown(r, n-1-k)}}
}

// above tells some operation that needs x alone.
func above(r *rand.Rand, x tree) api.Op {
	some, wrong := names(), r.IntN(8) == 0
	if !wrong {
		some = those(func(v string) bool { return !x.brings(v) })
	}
	switch k := r.IntN(6); {
	case k < 3 && len(some) > 0:
		return extend(some[r.IntN(len(some))])
	case k == 3 && (wrong || !x.hasService()):
		return []api.Op{service("e"), silent("e")}[r.IntN(2)]
	}
	return filter("x")
}

// errorOf tells what Check must answer of a tree's code, whose operations are right by themselves, and not too many.
func errorOf(x tree) api.Errno {
	switch {
	case x.nested():
		return api.ErrForm
	case x.clashes():
		return api.ErrScope
	}
	return api.OK
}

// every tells each row of at most n of a few operations.
func every(few []api.Op, n int, told func(c []api.Op)) {
	var more func(c []api.Op)
	more = func(c []api.Op) {
		told(slices.Clip(c))
		if len(c) == n {
			return
		}
		for _, o := range few {
			more(append(slices.Clip(c), o))
		}
	}
	more(nil)
}

// brief tells what a failure's line has room for.
func brief(x any) string { return fmt.Sprintf("%.400s", fmt.Sprintf("%+v", x)) }

// checkRefused holds what all calls answer of what is no code.
func checkRefused(t *testing.T, c []api.Op, want api.Errno) {
	t.Helper()
	if e := scope.Check(c); e != want {
		t.Errorf("%s: %d; not %d", brief(c), e, want)
	}
	for _, i := range []int{-1, 0, len(c) - 1, len(c)} { // Check's error goes ahead of ErrRange
		if l, e := scope.InScope(c, i); len(l) != 0 || e != want {
			t.Errorf("%s: in scope at %d: %q %d; not %d", brief(c), i, l, e, want)
		}
		if l, e := scope.Certain(c, i); len(l) != 0 || e != want {
			t.Errorf("%s: certain at %d: %q %d; not %d", brief(c), i, l, e, want)
		}
		if n, e := scope.From(c, i); n != 0 || e != want {
			t.Errorf("%s: from %d: %d %d; not %d", brief(c), i, n, e, want)
		}
	}
}

// checkBrought holds what is brought at a place of a code.
func checkBrought(t *testing.T, c []api.Op, i int, inScope, certain []string, from int) {
	t.Helper()
	if l, e := scope.InScope(c, i); !slices.Equal(l, inScope) || e != api.OK {
		t.Errorf("%s: in scope at %d: %q %d; not %q", brief(c), i, l, e, inScope)
	}
	if l, e := scope.Certain(c, i); !slices.Equal(l, certain) || e != api.OK {
		t.Errorf("%s: certain at %d: %q %d; not %q", brief(c), i, l, e, certain)
	}
	if n, e := scope.From(c, i); n != from || e != api.OK {
		t.Errorf("%s: from %d: %d %d; not %d", brief(c), i, n, e, from)
	}
}
