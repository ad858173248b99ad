package triples_test

import (
	"slices"
	"strings"
	"testing"

	"legation/api"
	"legation/triples"
)

func iri(s string) api.Term              { return api.Term{Kind: api.Iri, Text: s} }
func blank(s string) api.Term            { return api.Term{Kind: api.Blank, Text: s} }
func variable(s string) api.Term         { return api.Term{Kind: api.Var, Text: s} }
func literal(s string) api.Term          { return api.Term{Kind: api.Literal, Text: s} }
func typed(s, kind string) api.Term      { return api.Term{Kind: api.Literal, Text: s, Type: kind} }
func worded(s, language string) api.Term { return api.Term{Kind: api.Literal, Text: s, Lang: language} }

func triple(s, p, o api.Term) api.Triple { return api.Triple{S: s, P: p, O: o} }

// rightTerms are right terms of each kind, None too.
func rightTerms() []api.Term {
	return []api.Term{
		{},
		iri("a"), iri("http://t/?q=1#x"), iri("?x"), iri("."), iri(strings.Repeat("i", api.MaxText)),
		literal(""), literal("a"), literal(" "), literal(" .\n"), literal("<a>"), literal("\"\\\t"), typed("1", api.TypeInteger), worded("a", "en"), literal(strings.Repeat("\n", api.MaxText)),
		blank("a"), blank("n1"), blank(strings.Repeat("b", 32)),
		variable("a"), variable("x"), variable(strings.Repeat("v", 32)),
	}
}

// wrongTerms are terms that are not right, of each kind and of none.
func wrongTerms() []api.Term {
	return []api.Term{
		{Kind: -1}, {Kind: -1, Text: "a"}, {Kind: 5, Text: "a"}, {Kind: -1 << 63, Text: "a"}, {Kind: 1<<63 - 1, Text: "a"}, {Kind: 1<<32 + api.Iri, Text: "a"},
		{Text: "a"}, {Type: "t"}, {Lang: "en"},
		iri(""), iri("a b"), iri("<a>"), iri("a\n"), iri("é"), iri(strings.Repeat("i", api.MaxText+1)), {Kind: api.Iri, Text: "a", Type: "t"}, {Kind: api.Iri, Text: "a", Lang: "en"},
		literal("é"), literal("\x00"), literal("\r"), literal(strings.Repeat("l", api.MaxText+1)), typed("a", "t t"), worded("a", "EN"), worded("a", "abcdefghi"), {Kind: api.Literal, Text: "a", Type: "t", Lang: "en"},
		blank(""), blank("1"), blank("a b"), blank("_:a"), blank(strings.Repeat("b", 33)), {Kind: api.Blank, Text: "a", Lang: "en"},
		variable(""), variable("?x"), variable("x y"), variable(strings.Repeat("v", 33)), {Kind: api.Var, Text: "x", Type: "t"},
	}
}

// one tells whether a term is right and of one of those kinds.
func one(x api.Term, right bool, kinds ...int) bool {
	return right && slices.Contains(kinds, x.Kind)
}

// P3.1: each right and each wrong term, at each place, with each other one.
func TestCheck(t *testing.T) {
	l := append(rightTerms(), wrongTerms()...)
	n := len(rightTerms())
	for i, s := range l {
		for j, p := range l {
			for k, o := range l {
				x := triple(s, p, o)
				asTriple, asPattern := api.ErrForm, api.ErrForm
				if one(s, i < n, api.Iri, api.Blank) && one(p, j < n, api.Iri) && one(o, k < n, api.Iri, api.Blank, api.Literal) {
					asTriple = api.OK
				}
				if one(s, i < n, api.Iri, api.Var) && one(p, j < n, api.Iri, api.Var) && one(o, k < n, api.Iri, api.Literal, api.Var) {
					asPattern = api.OK
				}
				if e := triples.Check(x); e != asTriple {
					t.Fatalf("%.200v: %d", x, e)
				}
				if e := triples.CheckPattern(x); e != asPattern {
					t.Fatalf("%.200v, a pattern: %d", x, e)
				}
			}
		}
	}
}

// P3.1: what may stand where, written out.
func TestCheckByKinds(t *testing.T) {
	a, b, c, x := iri("a"), blank("b"), literal("c"), variable("x")
	for _, one := range []struct {
		t                   api.Triple
		asTriple, asPattern api.Errno
	}{
		{triple(a, a, a), api.OK, api.OK}, {triple(a, a, c), api.OK, api.OK},
		{triple(b, a, a), api.OK, api.ErrForm}, {triple(a, a, b), api.OK, api.ErrForm}, {triple(b, a, b), api.OK, api.ErrForm}, {triple(b, a, c), api.OK, api.ErrForm},
		{triple(x, a, a), api.ErrForm, api.OK}, {triple(a, x, a), api.ErrForm, api.OK}, {triple(a, a, x), api.ErrForm, api.OK}, {triple(x, x, x), api.ErrForm, api.OK}, {triple(x, x, c), api.ErrForm, api.OK},
		{triple(c, a, a), api.ErrForm, api.ErrForm}, {triple(a, c, a), api.ErrForm, api.ErrForm}, {triple(a, b, a), api.ErrForm, api.ErrForm},
		{triple(b, a, x), api.ErrForm, api.ErrForm}, {triple(x, a, b), api.ErrForm, api.ErrForm}, {triple(c, x, x), api.ErrForm, api.ErrForm}, {triple(x, c, x), api.ErrForm, api.ErrForm},
		{api.Triple{}, api.ErrForm, api.ErrForm}, {triple(a, a, api.Term{}), api.ErrForm, api.ErrForm}, {triple(a, api.Term{}, a), api.ErrForm, api.ErrForm}, {triple(api.Term{}, a, a), api.ErrForm, api.ErrForm},
	} {
		if e := triples.Check(one.t); e != one.asTriple {
			t.Errorf("%v: %d", one.t, e)
		}
		if e := triples.CheckPattern(one.t); e != one.asPattern {
			t.Errorf("%v, a pattern: %d", one.t, e)
		}
	}
}

// inOrder are terms, each ahead of the next one: right and wrong ones, unlike in Kind, in Text, in Type, in Lang alone.
func inOrder() []api.Term {
	return []api.Term{
		{Kind: -1 << 63, Text: "z"}, {Kind: -1, Text: "z"},
		{}, {Text: "a"},
		iri(""), iri("Z"), iri("a"), iri("a\x00"), iri("aa"), iri("b"), iri("\xff"),
		literal(""), literal("a"), worded("a", "de"), worded("a", "en"), typed("a", "t"), {Kind: api.Literal, Text: "a", Type: "t", Lang: "en"}, typed("a", "u"), literal("b"),
		blank("a"), variable("a"), {Kind: 5}, {Kind: 1<<63 - 1},
	}
}

func sign(n int) int {
	return max(-1, min(1, n))
}

// P3.1: by S, then P, then O: all triples of those terms, whether they are right or not.
func TestCompare(t *testing.T) {
	l := inOrder()
	for i := range l {
		for j := range l {
			if got := triples.Compare(triple(l[i], l[0], l[0]), triple(l[j], l[0], l[0])); got != sign(i-j) {
				t.Errorf("S %+v %+v: %d", l[i], l[j], got)
			}
			if got := triples.Compare(triple(l[0], l[i], l[0]), triple(l[0], l[j], l[0])); got != sign(i-j) {
				t.Errorf("P %+v %+v: %d", l[i], l[j], got)
			}
			if got := triples.Compare(triple(l[0], l[0], l[i]), triple(l[0], l[0], l[j])); got != sign(i-j) {
				t.Errorf("O %+v %+v: %d", l[i], l[j], got)
			}
		}
	}
}

// P3.1: what stands ahead of P and O weighs more than they.
func TestCompareByThree(t *testing.T) {
	var l []api.Triple
	for _, s := range inOrder()[4:12] {
		for _, p := range inOrder()[9:14] {
			for _, o := range inOrder()[2:7] {
				l = append(l, triple(s, p, o))
			}
		}
	}
	for i := range l {
		for j := range l {
			if got := triples.Compare(l[i], l[j]); got != sign(i-j) {
				t.Fatalf("%+v %+v: %d", l[i], l[j], got)
			}
		}
	}
}

// P3.1: each variable once, in the order S, P, O; nothing but variables.
func TestVars(t *testing.T) {
	a, b, c, x, y, z := iri("x"), blank("x"), literal("x"), variable("x"), variable("y"), variable("z")
	for _, one := range []struct {
		t    api.Triple
		want []string
	}{
		{triple(x, y, z), []string{"x", "y", "z"}}, {triple(z, y, x), []string{"z", "y", "x"}}, {triple(y, z, x), []string{"y", "z", "x"}},
		{triple(x, x, x), []string{"x"}}, {triple(x, x, y), []string{"x", "y"}}, {triple(x, y, x), []string{"x", "y"}}, {triple(y, x, x), []string{"y", "x"}}, {triple(x, y, y), []string{"x", "y"}},
		{triple(x, a, a), []string{"x"}}, {triple(a, x, a), []string{"x"}}, {triple(a, a, x), []string{"x"}},
		{triple(x, a, x), []string{"x"}}, {triple(x, x, a), []string{"x"}}, {triple(a, x, x), []string{"x"}},
		{triple(y, a, x), []string{"y", "x"}}, {triple(y, x, a), []string{"y", "x"}}, {triple(a, y, x), []string{"y", "x"}},
		{triple(a, a, a), nil}, {triple(b, a, c), nil}, {triple(c, b, x), []string{"x"}}, {triple(x, c, b), []string{"x"}}, {api.Triple{}, nil}, {triple(api.Term{}, x, api.Term{}), []string{"x"}},
		{triple(variable("X"), x, variable("xx")), []string{"X", "x", "xx"}},
	} {
		got := triples.Vars(one.t)
		if !slices.Equal(got, one.want) {
			t.Errorf("%v: %q", one.t, got)
		}
		for i := range got {
			got[i] = "changed"
		}
		if again := triples.Vars(one.t); !slices.Equal(again, one.want) {
			t.Errorf("%v: %q the second time", one.t, again)
		}
	}
}
