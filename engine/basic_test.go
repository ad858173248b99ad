package engine_test

import (
	"math/rand/v2"
	"slices"
	"testing"

	"legation/api"
	"legation/engine"
)

// checkBasics holds what Basic tells, over a store, of patterns against tables: patterns, then a table, and so on. A code of one OBasic says the same.
func checkBasics(t *testing.T, triples string, cases ...string) {
	t.Helper()
	s := stored(t, triples)
	for i := 0; i < len(cases); i += 2 {
		got, e := engine.Basic(s, patterns(t, cases[i]))
		check(t, cases[i], got, e, of(t, cases[i+1]))
		got, e = engine.Code(engine.World{Base: s}, []api.Op{basic(t, cases[i])})
		check(t, cases[i], got, e, of(t, cases[i+1]))
	}
}

// P14.1: the chapter's example, and the same the other way round.
func TestBasicExample(t *testing.T) {
	checkBasics(t, "a knows b|b knows c",
		"?x knows ?y|?y knows ?z", "x y z|a b c",
		"?y knows ?z|?x knows ?y", "y z x|b c a")
}

// P14.1: no pattern, one, several.
func TestBasic(t *testing.T) {
	checkBasics(t, "a k b|b k c|c k c|a n 1|b n 2",
		"", "|",
		"?x k ?y", "x y|a b|b c|c c",
		"?y k ?x", "y x|a b|b c|c c",
		"?x k c", "x|b|c",
		"a ?p ?o", "p o|k b|n 1",
		"?s ?p ?o", "s p o|a k b|a n 1|b k c|b n 2|c k c",
		"?x q ?y", "x y",
		"?x k ?y|?y k ?z", "x y z|a b c|b c c|c c c", // they share some variables
		"?x k ?y|?z k ?y", "x y z|a b a|b c b|b c c|c c b|c c c",
		"?x k ?y|?y n ?n", "x y n|a b 2",
		"?x k ?y|?y n ?n|?x n ?m", "x y n m|a b 2 1",
		"?x n ?n|?x k ?y|?y k ?z", "x n y z|a 1 b c|b 2 c c",
		"?x ?p ?y|?y ?p ?z", "x p y z|a k b c|b k c c|c k c c",
		"?x k ?y|?u n ?v", "x y u v|a b a 1|a b b 2|b c a 1|b c b 2|c c a 1|c c b 2", // none
		"?u n ?v|?x k ?y", "u v x y|a 1 a b|a 1 b c|a 1 c c|b 2 a b|b 2 b c|b 2 c c",
		"?x k ?y|?x n ?z|?u n 2", "x y z u|a b 1 b|b c 2 b",
		"?x k ?y|?y k ?x", "x y|c c", // all
		"?x k ?y|?x ?y ?z", "x y z",
		"?x n ?y|?y k ?z", "x y z", // a literal is no triple's S
		"?x k ?y|?x q ?y", "x y",
		"?x q ?y|?x k ?z|?z k ?y", "x y z")
}

// P14.1: a pattern that stands twice, patterns without variables.
func TestBasicTwiceAndWithout(t *testing.T) {
	checkBasics(t, "a k b|b k c|c k c|a n 1|b n 2",
		"?x k ?y|?x k ?y", "x y|a b|b c|c c",
		"?x k ?y|?y k ?z|?x k ?y", "x y z|a b c|b c c|c c c",
		"a k b|a k b", "|",
		"a k b", "|",
		"a k c", "",
		"a k b|b k c", "|",
		"a k b|b k a", "",
		"a k c|b k c", "",
		"a k b|?x n ?y", "x y|a 1|b 2",
		"?x n ?y|a k b", "x y|a 1|b 2",
		"a k c|?x n ?y", "x y",
		"?x n ?y|a k c", "x y",
		"a n 1|?x n 1|b n 2", "x|a")
}

// P14.1: a variable that stands twice in one pattern, or thrice; terms that are nearly alike; blank nodes, which a pattern may not name.
func TestBasicTerms(t *testing.T) {
	checkBasics(t, "a k a|a k b|b b b|b b c|k k a|c b c",
		"?x k ?x", "x|a",
		"?x ?x ?y", "x y|b b|b c|k a",
		"?x ?y ?y", "x y|b b",
		"?x ?x ?x", "x|b",
		"?x ?y ?x", "x y|a k|b b|c b",
		"?x k ?x|?x k ?y", "x y|a a|a b",
		"?x k ?y|?y ?y ?y", "x y|a b",
		"?x ?y ?x|?y ?y ?z", "x y z|a k a|b b b|b b c|c b b|c b c")
	checkBasics(t, `a k 1|a k 01|a k 1.0|a k "1"|a k "1"@en|a k one|b n 1|b n "1"`,
		"?x n ?y|a k ?y", `x y|b "1"|b 1`,
		"a k 1|a k 01|a k ?y|b n ?y", `y|"1"|1`,
		"?x k 1.0", "x|a",
		"?x n 1.0", "x")
	checkBasics(t, "_:a k _:b|_:b k a|a k _:a|b k _:b|a n a",
		"?x k ?y|?y k ?z", "x y z|a _:a _:b|b _:b a|_:a _:b a|_:b a _:a",
		"?x k ?y|a k ?x", "x y|_:a _:b",
		"?x n ?y|?y k ?z", "x y z|a a _:a")
}

// P14.1: a nil store has no triples, and a store may be empty.
func TestBasicOfNothing(t *testing.T) {
	for _, s := range []string{"", "?x k ?y", "a k b", "?x k ?y|?y k ?z", "a k b|?x ?y ?z", "?x ?x ?x"} {
		l := patterns(t, s)
		want := of(t, "|")
		if len(l) > 0 {
			p, _ := plainBasic(nil, l)
			want = of(t, "")
			want.Vars = p.vars
		}
		for _, l := range [][]api.Triple{l, slices.Clone(l)} {
			got, e := engine.Basic(nil, l)
			check(t, s, got, e, want)
			got, e = engine.Basic(stored(t, ""), l)
			check(t, s, got, e, want)
			got, e = engine.Code(engine.World{}, []api.Op{{Kind: api.OBasic, Triples: l}})
			check(t, s, got, e, want)
		}
	}
	got, e := engine.Basic(nil, []api.Triple{})
	check(t, "no pattern", got, e, of(t, "|"))
}

// P14.1: of grown stores and patterns what the chapter says.
func TestBasicGrown(t *testing.T) {
	r := rand.New(rand.NewPCG(14, 1))
	rows := 0
	for range 3000 {
		s, l := grownStore(t, r, 30), grownPatterns(r, 4)
		want, wanted := plainBasic(s, l)
		got, e := engine.Basic(s, l)
		told(t, l, got, e, want.table(), wanted)
		rows += len(got.Rows)
	}
	if rows < 3000 {
		t.Errorf("just %d rows", rows)
	}
}

// wrongPatterns are none that are right, each by one term.
func wrongPatterns() []api.Triple {
	x, k := variable("x"), iri("k")
	l := []api.Triple{{}, {S: x, P: k}, {P: k, O: x}, {S: x, O: x}, {S: integer("1"), P: k, O: x}, {S: literal("a"), P: k, O: x}, {S: x, P: integer("1"), O: x}, {S: x, P: k, O: variable("")}, {S: variable("1"), P: k, O: x}}
	for _, y := range []api.Term{{Kind: api.Blank, Text: "a"}, iri(""), iri("a b"), iri("é"), {Kind: 5, Text: "a"}, {Kind: -1}, {Kind: api.Iri, Text: "a", Type: "t"}, {Kind: api.Var, Text: "x", Lang: "en"}, {Text: "a"}} {
		l = append(l, api.Triple{S: y, P: k, O: x}, api.Triple{S: x, P: y, O: x}, api.Triple{S: x, P: k, O: y})
	}
	return append(l, api.Triple{S: x, P: k, O: literal("é")}, api.Triple{S: x, P: k, O: api.Term{Kind: api.Literal, Text: "a", Type: "t", Lang: "en"}})
}

// P14.1: a pattern that is not right, wherever it stands: ErrForm, ahead of too many rows and of too many variables.
func TestBasicWrong(t *testing.T) {
	s := storeOf(t, slices.Concat(counted("k", 65), counted("n", 65)))
	long := patterns(t, "?a k ?b|?c n ?d")
	for _, p := range wrongPatterns() {
		for _, l := range [][]api.Triple{{p}, {long[0], p}, {p, long[0]}, append(slices.Clone(long), p), append([]api.Triple{p}, long...), append(wide(33), p), append(wide(33), p, long[0]), append(patterns(t, "?x q ?y"), p)} {
			got, e := engine.Basic(s, l)
			refused(t, l, got, e, api.ErrForm)
			got, e = engine.Basic(nil, l)
			refused(t, l, got, e, api.ErrForm)
		}
	}
	got, e := engine.Basic(s, long)
	refused(t, long, got, e, api.ErrLong)
}
