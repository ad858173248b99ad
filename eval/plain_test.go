package eval_test

import (
	"bytes"
	"fmt"
	"math/rand/v2"
	"slices"
	"strings"
	"testing"

	"legation/api"
	"legation/eval"
	"legation/formula"
	"legation/lex"
	"legation/number"
	"legation/term"
)

// The tests' own reading of the chapter: a formula as a tree, whose terms are told apart by sorts, and what becomes of two sorts written down as a square.

func iri(s string) api.Term         { return api.Term{Kind: api.Iri, Text: s} }
func blank(s string) api.Term       { return api.Term{Kind: api.Blank, Text: s} }
func literal(s string) api.Term     { return api.Term{Kind: api.Literal, Text: s} }
func typed(s, kind string) api.Term { return api.Term{Kind: api.Literal, Text: s, Type: kind} }
func integer(s string) api.Term     { return typed(s, api.TypeInteger) }
func decimal(s string) api.Term     { return typed(s, api.TypeDecimal) }
func boolean(s string) api.Term     { return typed(s, api.TypeBoolean) }
func wording(s string) api.Term     { return typed(s, api.TypeString) }
func worded(s, language string) api.Term {
	return api.Term{Kind: api.Literal, Text: s, Lang: language}
}

func value(t api.Term) api.Part   { return api.Part{Kind: api.XTerm, Term: t} }
func asked(name string) api.Part  { return api.Part{Kind: api.XVar, Name: name} }
func bound(name string) api.Part  { return api.Part{Kind: api.XBound, Name: name} }
func of(kind int) api.Part        { return api.Part{Kind: kind} }
func coalesced(n int) api.Part    { return api.Part{Kind: api.XCoalesce, N: n} }
func plainTruth(is bool) api.Term { return boolean(fmt.Sprint(is)) }

// sort is what the chapter tells terms apart by.
type sort int

const (
	aNumber  sort = iota
	aText         // neither Type nor Lang
	aWording      // a Lang
	aString
	aBoolean // with a Text that says which
	another  // any other literal
	noLiteral
)

func sortOf(t api.Term) sort {
	_, e := number.Of(t)
	switch {
	case t.Kind != api.Literal:
		return noLiteral
	case e == api.OK:
		return aNumber
	case t.Lang != "":
		return aWording
	case t.Type == "":
		return aText
	case t.Type == api.TypeString:
		return aString
	case t == boolean("true") || t == boolean("false"):
		return aBoolean
	}
	return another
}

// equality says of two sorts what = of terms that are not the same comes to: n as the numbers compare, f false, ! an error.
var equality = [...]string{
	aNumber:   "n!f!!!f",
	aText:     "!ff!!!f",
	aWording:  "fffffff",
	aString:   "!!ff!!f",
	aBoolean:  "!!f!f!f",
	another:   "!!f!!!f",
	noLiteral: "fffffff",
}

// plainEqual tells what = comes to, and whether that is no error.
func plainEqual(a, b api.Term) (is, ok bool) {
	way := equality[sortOf(a)][sortOf(b)]
	if way == 'n' {
		order, _ := plainCompare(a, b)
		return order == 0, true
	}
	if a.Kind == b.Kind && a.Text == b.Text && a.Type == b.Type && a.Lang == b.Lang {
		return true, true
	}
	return false, way == 'f'
}

// plainCompare tells the order of two terms, and whether there is one.
func plainCompare(a, b api.Term) (int, bool) {
	if sortOf(a) != sortOf(b) {
		return 0, false
	}
	switch sortOf(a) {
	case aNumber:
		x, _ := number.Of(a)
		y, _ := number.Of(b)
		order, _ := number.Compare(x, y)
		return order, true
	case aText, aString:
		return bytes.Compare([]byte(a.Text), []byte(b.Text)), true
	case aBoolean:
		return map[string]int{"true": 1}[a.Text] - map[string]int{"true": 1}[b.Text], true
	}
	return 0, false
}

// plainIs tells a term's truth, and whether it has one.
func plainIs(t api.Term) (is, ok bool) {
	switch sortOf(t) {
	case aNumber:
		n, _ := number.Of(t)
		return n.Value != 0, true
	case aText, aWording, aString:
		return len(t.Text) > 0, true
	case aBoolean:
		return t.Text == "true", true
	}
	return false, false
}

// tree is a part, and the trees of what it needs.
type tree struct {
	part  api.Part
	needs []tree
}

// parts tells the parts of a tree, each behind what it needs.
func (n tree) parts() []api.Part {
	var l []api.Part
	for _, x := range n.needs {
		l = append(l, x.parts()...)
	}
	return append(l, n.part)
}

// come tells what a tree comes to, where the variables are bound so, and whether that is no error.
func (n tree) come(row map[string]api.Term) (api.Term, bool) {
	t, is := row[n.part.Name]
	switch n.part.Kind {
	case api.XTerm:
		return n.part.Term, true
	case api.XVar:
		return t, is
	case api.XBound:
		return plainTruth(is), true
	case api.XAnd, api.XOr:
		return n.both(row, n.part.Kind == api.XOr)
	case api.XIf:
		t, ok := n.needs[0].come(row)
		is, has := plainIs(t)
		switch {
		case !ok || !has:
			return api.Term{}, false
		case is:
			return n.needs[1].come(row)
		}
		return n.needs[2].come(row)
	case api.XCoalesce:
		for _, x := range n.needs {
			if t, ok := x.come(row); ok {
				return t, true
			}
		}
		return api.Term{}, false
	}
	var l []api.Term
	for _, x := range n.needs {
		t, ok := x.come(row)
		if !ok {
			return api.Term{}, false
		}
		l = append(l, t)
	}
	if t, ok := plainComes(n.part.Kind, l); ok {
		return t, true
	}
	return api.Term{}, false
}

// both counts which truths two have: one that is enough goes ahead of one that has none.
func (n tree) both(row map[string]api.Term, enough bool) (api.Term, bool) {
	some, all := false, true
	for _, x := range n.needs {
		t, ok := x.come(row)
		is, has := plainIs(t)
		some = some || ok && has && is == enough
		all = all && ok && has
	}
	if !some && !all {
		return api.Term{}, false
	}
	return plainTruth(some == enough), true
}

// plainComes tells what a part comes to from terms, by its kind, and whether that is no error.
func plainComes(kind int, l []api.Term) (api.Term, bool) {
	x, y := l[0], l[len(l)-1]
	order, ordered := plainCompare(x, y)
	is, has := plainIs(x)
	equal, told := plainEqual(x, y)
	switch kind {
	case api.XNot:
		return plainTruth(!is), has
	case api.XEq:
		return plainTruth(equal), told
	case api.XNe:
		return plainTruth(!equal), told
	case api.XLt:
		return plainTruth(order == -1), ordered
	case api.XGt:
		return plainTruth(order == 1), ordered
	case api.XLe:
		return plainTruth(order != 1), ordered
	case api.XGe:
		return plainTruth(order != -1), ordered
	case api.XNeg, api.XAdd, api.XSub, api.XMul, api.XDiv:
		return plainReckoned(kind, x, y)
	case api.XStr:
		return literal(x.Text), x.Kind == api.Iri || x.Kind == api.Literal
	case api.XLang:
		return literal(x.Lang), x.Kind == api.Literal
	case api.XType:
		if x.Type == "" {
			x.Type = api.TypeString
		}
		return iri(x.Type), x.Kind == api.Literal && x.Lang == ""
	case api.XSame:
		return plainTruth(x == y), true
	}
	return plainTruth(x.Kind == map[int]int{api.XIsIri: api.Iri, api.XIsLit: api.Literal, api.XIsBlank: api.Blank}[kind]), true
}

func plainReckoned(kind int, a, b api.Term) (api.Term, bool) {
	x, e := number.Of(a)
	y, f := number.Of(b)
	if e != api.OK || f != api.OK {
		return api.Term{}, false
	}
	var n api.Num
	switch kind {
	case api.XNeg:
		n, e = number.Sub(api.Num{}, x)
	case api.XAdd:
		n, e = number.Add(x, y)
	case api.XSub:
		n, e = number.Sub(x, y)
	case api.XMul:
		n, e = number.Mul(x, y)
	case api.XDiv:
		n, e = number.Div(x, y)
	}
	if e != api.OK {
		return api.Term{}, false
	}
	t, _ := number.Term(n)
	return t, true
}

// someTerms are right terms of each sort, those at edges among them.
func someTerms() []api.Term {
	return []api.Term{
		iri("a"), iri("b"), iri("1"), iri("true"), iri(api.TypeInteger), blank("a"), blank("b"),
		literal(""), literal("a"), literal("b"), literal("ab"), literal("B"), literal("1"), literal("0"), literal("true"), literal("false"), literal(" "), literal("\t"), literal("\n~"),
		worded("", "en"), worded("a", "en"), worded("a", "de"), worded("b", "en"), worded("1", "en"), worded("true", "en"),
		wording(""), wording("a"), wording("b"), wording("B"), wording("1"), wording("true"), wording("false"),
		boolean("true"), boolean("false"), boolean("1"), boolean("0"), boolean(""), boolean("TRUE"),
		integer("0"), integer("-0"), integer("1"), integer("+1"), integer("01"), integer("-1"), integer("2"), integer("10"), integer("999999999"), integer("-999999999"),
		integer(""), integer("x"), integer("1.0"), integer("1000000000"), integer("true"),
		decimal("0.0"), decimal("-.0"), decimal("1.0"), decimal("1.00"), decimal("1.5"), decimal("0.0001"), decimal("-0.0001"), decimal("99999.9999"), decimal("1"), decimal("1.00000"), decimal("a"),
		typed("a", "t"), typed("b", "t"), typed("1", "t"), typed("", "t"), typed("true", "u"), typed("a", "u"), typed("1", api.TypeInteger+"s"),
	}
}

// oddTerms are terms that are not right.
func oddTerms() []api.Term {
	l := []api.Term{
		{Text: "a"}, {Type: api.TypeInteger, Text: "1"}, {Lang: "en"}, iri(""), iri("a b"), blank(""), blank("é"), literal("é"), literal("\x00"), worded("a", "EN"), worded("a", "é"), integer("é"), integer("1\x00"), boolean("\xff"),
		{Kind: api.Literal, Text: "1", Type: api.TypeInteger, Lang: "en"}, {Kind: api.Literal, Text: "true", Type: api.TypeBoolean, Lang: "en"}, {Kind: api.Iri, Text: "1", Type: api.TypeInteger}, {Kind: api.Blank, Text: "true", Type: api.TypeBoolean, Lang: "en"},
		typed("a", "t t"), typed("1", "\xff"), literal(strings.Repeat("a", api.MaxText+1)), integer(strings.Repeat("1", 1<<20)), iri(strings.Repeat("é", 1<<16)), worded("a", strings.Repeat("e", 1<<16)),
	}
	for _, kind := range []int{-1 << 63, -1, 5, 256 + api.Literal, 1<<32 + api.Literal, 1<<63 - 1} {
		l = append(l, api.Term{Kind: kind}, api.Term{Kind: kind, Text: "1", Type: api.TypeInteger}, api.Term{Kind: kind, Text: "true", Type: api.TypeBoolean}, api.Term{Kind: kind, Text: "a", Lang: "en"})
	}
	return l
}

// read tells the formula of a text, in which a type's last word stands for it.
func read(t *testing.T, s string) []api.Part {
	t.Helper()
	for word, kind := range map[string]string{"integer": api.TypeInteger, "decimal": api.TypeDecimal, "boolean": api.TypeBoolean, "string": api.TypeString} {
		s = strings.ReplaceAll(s, "^^"+word, "^^<"+kind+">")
	}
	l, _, e := lex.Lex(s)
	if e != api.OK {
		t.Fatalf("%q: %d", s, e)
	}
	f, at, e := formula.Parse(l, 0)
	if at != len(l) || e != api.OK {
		t.Fatalf("%q: %d %d", s, at, e)
	}
	return f
}

// checkComes holds that f comes to a term, and to no error, if ok; and what Holds tells of it.
func checkComes(t *testing.T, f []api.Part, vars []string, row []api.Term, want api.Term, ok bool) {
	t.Helper()
	e, holds := api.OK, false
	if !ok {
		e, want = api.ErrOver, api.Term{}
	} else {
		is, has := plainIs(want)
		holds = is && has
	}
	if x, y := eval.Eval(f, vars, row); x != want || y != e {
		t.Fatalf("%s with %v %s: %s %d; not %s %d", written(f), brief(vars), brief(row), brief(x), y, brief(want), e)
	}
	if x, y := eval.Holds(f, vars, row); x != holds || y != api.OK {
		t.Fatalf("%s with %v %s: holds %v %d; not %v", written(f), brief(vars), brief(row), x, y, holds)
	}
}

// checkTree holds what a tree comes to for a row whose variables stand once.
func checkTree(t *testing.T, n tree, vars []string, row []api.Term) (api.Term, bool) {
	t.Helper()
	m := map[string]api.Term{}
	for i, s := range vars {
		if row[i].Kind != api.None {
			m[s] = row[i]
		}
	}
	want, ok := n.come(m)
	checkComes(t, n.parts(), vars, row, want, ok)
	return want, ok
}

// checkRefused holds what is told of what is no formula.
func checkRefused(t *testing.T, f []api.Part, want api.Errno) {
	t.Helper()
	vars, row := []string{"x"}, []api.Term{integer("1")}
	if x, e := eval.Eval(f, vars, row); x != (api.Term{}) || e != want {
		t.Fatalf("%s: %s %d; not %d", brief(f), brief(x), e, want)
	}
	if x, e := eval.Holds(f, vars, row); x || e != want {
		t.Fatalf("%s: holds %v %d; not %d", brief(f), x, e, want)
	}
}

// written tells a formula's text, cut short.
func written(f []api.Part) string {
	s, e := formula.Text(f)
	if e != api.OK {
		return brief(f)
	}
	return fmt.Sprintf("%.300s", strings.ReplaceAll(s, "http://www.w3.org/2001/XMLSchema#", ""))
}

func brief(x any) string {
	if y, is := x.(api.Term); is {
		if s, e := term.Text(y); e == api.OK && s != "" {
			x = s
		}
	}
	return fmt.Sprintf("%.300s", fmt.Sprintf("%+v", x))
}

// grown tells some tree of at most n parts.
func grown(r *rand.Rand, n int, leaves []api.Part) tree {
	k := 1 + r.IntN(3)
	if n <= k {
		return tree{part: leaves[r.IntN(len(leaves))]}
	}
	p := coalesced(k)
	if r.IntN(6) > 0 {
		one := []int{api.XNot, api.XNeg, api.XStr, api.XLang, api.XType, api.XIsIri, api.XIsLit, api.XIsBlank}
		two := []int{api.XAnd, api.XOr, api.XEq, api.XNe, api.XLt, api.XGt, api.XLe, api.XGe, api.XAdd, api.XSub, api.XMul, api.XDiv, api.XSame}
		kinds := [][]int{one, two, {api.XIf}}[k-1]
		p = of(kinds[r.IntN(len(kinds))])
	}
	x := tree{part: p}
	for i := range k {
		x.needs = append(x.needs, grown(r, (n-1)/k-i%2, leaves))
	}
	return x
}

// someLeaves are parts that need nothing: terms, those that make most parts come to something more often, and variables.
func someLeaves(names []string) []api.Part {
	var l []api.Part
	for _, t := range someTerms() {
		if t.Kind == api.Iri || t.Kind == api.Literal {
			l = append(l, value(t))
		}
	}
	for _, t := range []api.Term{integer("1"), integer("2"), decimal("0.5"), boolean("true"), boolean("false"), literal("a"), literal("b")} {
		l = append(l, slices.Repeat([]api.Part{value(t)}, 8)...)
	}
	for _, s := range names {
		l = append(l, slices.Repeat([]api.Part{asked(s)}, 12)...)
		l = append(l, slices.Repeat([]api.Part{bound(s)}, 3)...)
	}
	return l
}
