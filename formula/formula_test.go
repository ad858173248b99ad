package formula_test

import (
	"math"
	"math/rand/v2"
	"slices"
	"strconv"
	"strings"
	"testing"

	"legation/api"
	"legation/formula"
	"legation/term"
)

// row tells p n times.
func row(n int, p api.Part) []api.Part {
	return slices.Repeat([]api.Part{p}, n)
}

// nots tells a formula of n parts: a variable, and a ! for each further one.
func nots(n int) []api.Part {
	return append([]api.Part{asked("x")}, row(n-1, of(api.XNot))...)
}

// P6.1: each kind, and kinds that are none.
func TestNeeds(t *testing.T) {
	want := map[int]int{
		api.XTerm: 0, api.XVar: 0, api.XBound: 0,
		api.XNot: 1, api.XNeg: 1, api.XStr: 1, api.XLang: 1, api.XType: 1, api.XIsIri: 1, api.XIsLit: 1, api.XIsBlank: 1,
		api.XAnd: 2, api.XOr: 2, api.XEq: 2, api.XNe: 2, api.XLt: 2, api.XGt: 2, api.XLe: 2, api.XGe: 2, api.XAdd: 2, api.XSub: 2, api.XMul: 2, api.XDiv: 2, api.XSame: 2,
		api.XIf: 3,
	}
	for kind := -3; kind < 40; kind++ {
		n, is := want[kind]
		if !is {
			n = -1
		}
		for _, p := range []api.Part{of(kind), {Kind: kind, Name: "?"}, {Kind: kind, Term: api.Term{Kind: 7}}} { // what it has beside says nothing
			if m := formula.Needs(p); m != n {
				t.Errorf("%+v: %d", p, m)
			}
		}
	}
	for _, kind := range []int{math.MinInt, math.MaxInt, math.MinInt32, math.MaxInt32, 1<<32 + api.XTerm, 1<<32 + api.XNot, 256 + api.XNot} {
		if n := formula.Needs(of(kind)); n != -1 {
			t.Errorf("%d: %d", kind, n)
		}
	}
	for n := -3; n < 40; n++ {
		m := n
		if n < 1 || n > 16 {
			m = -1
		}
		if k := formula.Needs(coalesced(n)); k != m {
			t.Errorf("%d: %d", n, k)
		}
	}
	for _, n := range []int{math.MinInt, math.MaxInt, 1<<32 + 1, 256 + 1} {
		if k := formula.Needs(coalesced(n)); k != -1 {
			t.Errorf("%d: %d", n, k)
		}
	}
}

// P6.1: a formula with one part of each kind, and those of one part.
func TestCheckOfEachKind(t *testing.T) {
	for _, p := range leaves() {
		if e := formula.Check([]api.Part{p}); e != api.OK {
			t.Errorf("%+v: %d", p, e)
		}
	}
	for _, p := range inner() {
		n := plainNeeds(p)
		for k := range n + 3 {
			want := api.ErrForm
			if k == n {
				want = api.OK
			}
			if e := formula.Check(append(row(k, asked("x")), p)); e != want {
				t.Errorf("%+v behind %d: %d", p, k, e)
			}
			if e := formula.Check(slices.Concat([]api.Part{p}, row(k, asked("x")))); e != api.ErrForm {
				t.Errorf("%+v ahead of %d: %d", p, k, e)
			}
		}
	}
	for _, f := range [][]api.Part{nil, {}} {
		if e := formula.Check(f); e != api.ErrForm {
			t.Errorf("%v: %d", f, e)
		}
	}
}

// reduced tells whether a row of parts of right fields is a formula: as long as there is a part just behind as many results as it needs, all of these are one result.
func reduced(f []api.Part) bool {
	marks := []byte{}
	for _, p := range f {
		n := plainNeeds(p)
		if n < 0 || len(marks) < n {
			return false
		}
		marks = append(marks[:len(marks)-n], 'r')
	}
	return string(marks) == "r"
}

// P6.1: each short row of a few parts.
func TestCheckOfEachShortRow(t *testing.T) {
	few := []api.Part{asked("x"), value(iri("a")), of(api.XNot), of(api.XAnd), of(api.XIf), coalesced(1), coalesced(2), coalesced(4), of(27), of(0)}
	formulas := 0
	every(few, 5, func(f []api.Part) {
		want := api.ErrForm
		if reduced(f) {
			want = api.OK
			formulas++
		}
		if e := formula.Check(f); e != want {
			t.Fatalf("%+v: %d", f, e)
		}
		s, e := formula.Text(f)
		if e != want || (s == "") != (e != api.OK) {
			t.Fatalf("%+v: text %q %d", f, s, e)
		}
	})
	if formulas < 100 {
		t.Errorf("just %d formulas", formulas)
	}
}

// wrongParts are parts that are in no formula, though they find what they need.
func wrongParts() []api.Part {
	x := iri("a")
	l := []api.Part{
		of(api.XTerm), of(api.XVar), of(api.XBound), {Kind: api.XTerm, Name: "x"},
		{Kind: api.XTerm, Term: x, Name: "x"}, {Kind: api.XTerm, Term: x, N: 1}, {Kind: api.XTerm, Term: x, N: -1}, {Kind: api.XTerm, Term: x, N: math.MinInt},
	}
	for _, y := range []api.Term{
		{Kind: api.Var, Text: "x"}, {Kind: api.Blank, Text: "b"}, {Kind: -1, Text: "a"}, {Kind: 5, Text: "a"}, {Text: "a"}, {Kind: math.MaxInt, Text: "a"}, {Kind: 1<<32 + api.Iri, Text: "a"},
		iri(""), iri("a b"), iri("é"), iri(strings.Repeat("i", api.MaxText+1)), {Kind: api.Iri, Text: "a", Type: "t"}, {Kind: api.Iri, Text: "a", Lang: "en"},
		literal("\x00"), literal("é"), literal(strings.Repeat("l", api.MaxText+1)), typed("a", "t t"), worded("a", "EN"), {Kind: api.Literal, Text: "a", Type: "t", Lang: "en"},
	} {
		l = append(l, value(y))
	}
	for _, kind := range []int{api.XVar, api.XBound} {
		for _, s := range []string{"", "?x", "1", "_", "x y", "é", "x\x00", strings.Repeat("v", 33)} {
			l = append(l, api.Part{Kind: kind, Name: s})
		}
		l = append(l, api.Part{Kind: kind, Name: "x", Term: x}, api.Part{Kind: kind, Name: "x", Term: api.Term{Lang: "en"}}, api.Part{Kind: kind, Name: "x", N: 1}, api.Part{Kind: kind, Term: x})
	}
	for _, p := range inner() {
		q, r, s := p, p, p
		q.Term, r.Name, s.Term = x, "x", api.Term{Type: "t"}
		l = append(l, q, r, s)
		if p.Kind != api.XCoalesce {
			for _, n := range []int{1, 2, 3, -1, 16, 17, math.MaxInt} {
				l = append(l, api.Part{Kind: p.Kind, N: n})
			}
		}
	}
	return l
}

// P6.1: fields where they don't belong, and fields that are not right, make no formula of one.
func TestCheckOfFields(t *testing.T) {
	for _, p := range wrongParts() {
		n := plainNeeds(api.Part{Kind: p.Kind, N: p.N})
		if p.Kind != api.XCoalesce {
			n = plainNeeds(of(p.Kind))
		}
		f := append(row(n, asked("x")), p)
		checkRefused(t, f, api.ErrForm)
		checkRefused(t, append(f, of(api.XNot)), api.ErrForm)
		checkRefused(t, slices.Concat([]api.Part{asked("y")}, f, []api.Part{of(api.XAnd)}), api.ErrForm)
	}
	for _, n := range []int{0, 17, -1, -2, math.MaxInt, math.MinInt, 1<<32 + 1} {
		for k := range 18 {
			checkRefused(t, append(row(k, asked("x")), coalesced(n)), api.ErrForm)
		}
	}
}

// checkRefused holds what Check, Text and From answer of what is no formula.
func checkRefused(t *testing.T, f []api.Part, want api.Errno) {
	t.Helper()
	if e := formula.Check(f); e != want {
		t.Errorf("%s: %d", brief(f), e)
	}
	if s, e := formula.Text(f); s != "" || e != want {
		t.Errorf("%s: text %.100q %d", brief(f), s, e)
	}
	for _, i := range []int{-1, 0, len(f) - 1, len(f)} { // Check's error goes ahead of ErrRange
		if n, e := formula.From(f, i); n != 0 || e != want {
			t.Errorf("%s from %d: %d %d", brief(f), i, n, e)
		}
	}
}

// P6.1: MaxFormula parts, and more: ErrLong, whatever they are.
func TestCheckOfLongOnes(t *testing.T) {
	most := nots(api.MaxFormula)
	if e := formula.Check(most); e != api.OK {
		t.Errorf("%d", e)
	}
	if s, e := formula.Text(most); s != strings.Repeat("! ", api.MaxFormula-1)+"?x" || e != api.OK {
		t.Errorf("%.100q %d", s, e)
	}
	for _, i := range []int{0, 1, api.MaxFormula - 1} {
		if n, e := formula.From(most, i); n != 0 || e != api.OK {
			t.Errorf("%d: %d %d", i, n, e)
		}
	}
	checkRefused(t, nots(api.MaxFormula+1), api.ErrLong)
	checkRefused(t, row(api.MaxFormula, asked("x")), api.ErrForm)
	checkRefused(t, row(api.MaxFormula, of(api.XNot)), api.ErrForm)
	for _, p := range []api.Part{{}, of(-1), of(api.XNot), of(api.XAnd), asked("x"), asked(""), coalesced(17)} {
		checkRefused(t, row(api.MaxFormula+1, p), api.ErrLong)
		checkRefused(t, row(1<<16, p), api.ErrLong)
	}
	flat := slices.Concat(row(15*16, digits("1")), row(15, coalesced(16))) // 255 parts, of which 15 results are left
	checkRefused(t, flat, api.ErrForm)
	if f := append(flat, coalesced(15)); formula.Check(f) != api.OK || len(f) != api.MaxFormula {
		t.Errorf("%d parts: %d", len(f), formula.Check(f))
	}
}

// P6.1: the text of each kind of part.
func TestText(t *testing.T) {
	a, b, c := asked("a"), asked("b"), asked("c")
	for _, one := range []struct {
		f    []api.Part
		want string
	}{
		{[]api.Part{a}, "?a"},
		{[]api.Part{bound("a")}, "BOUND ( ?a )"},
		{[]api.Part{value(iri("http://t/#a"))}, "<http://t/#a>"},
		{[]api.Part{value(literal(""))}, `""`},
		{[]api.Part{value(literal("a \"b\"\n\t\\"))}, `"a \"b\"\n\t\\"`},
		{[]api.Part{value(worded("a", "en"))}, `"a"@en`},
		{[]api.Part{digits("1")}, `"1"` + integer},
		{[]api.Part{value(typed("true", api.TypeBoolean))}, `"true"` + boolean},
		{[]api.Part{a, of(api.XNot)}, "! ?a"},
		{[]api.Part{a, of(api.XNeg)}, "- ?a"},
		{[]api.Part{a, of(api.XNot), of(api.XNeg), of(api.XNot)}, "! - ! ?a"},
		{[]api.Part{a, b, of(api.XAnd)}, "( ?a && ?b )"},
		{[]api.Part{a, b, of(api.XOr)}, "( ?a || ?b )"},
		{[]api.Part{a, b, of(api.XEq)}, "( ?a = ?b )"},
		{[]api.Part{a, b, of(api.XNe)}, "( ?a != ?b )"},
		{[]api.Part{a, b, of(api.XLt)}, "( ?a < ?b )"},
		{[]api.Part{a, b, of(api.XGt)}, "( ?a > ?b )"},
		{[]api.Part{a, b, of(api.XLe)}, "( ?a <= ?b )"},
		{[]api.Part{a, b, of(api.XGe)}, "( ?a >= ?b )"},
		{[]api.Part{a, b, of(api.XAdd)}, "( ?a + ?b )"},
		{[]api.Part{a, b, of(api.XSub)}, "( ?a - ?b )"},
		{[]api.Part{a, b, of(api.XMul)}, "( ?a * ?b )"},
		{[]api.Part{a, b, of(api.XDiv)}, "( ?a / ?b )"},
		{[]api.Part{a, of(api.XStr)}, "STR ( ?a )"},
		{[]api.Part{a, of(api.XLang)}, "LANG ( ?a )"},
		{[]api.Part{a, of(api.XType)}, "DATATYPE ( ?a )"},
		{[]api.Part{a, of(api.XIsIri)}, "ISIRI ( ?a )"},
		{[]api.Part{a, of(api.XIsLit)}, "ISLITERAL ( ?a )"},
		{[]api.Part{a, of(api.XIsBlank)}, "ISBLANK ( ?a )"},
		{[]api.Part{a, b, of(api.XSame)}, "SAMETERM ( ?a , ?b )"},
		{[]api.Part{a, b, c, of(api.XIf)}, "IF ( ?a , ?b , ?c )"},
		{[]api.Part{a, coalesced(1)}, "COALESCE ( ?a )"},
		{[]api.Part{a, b, c, coalesced(3)}, "COALESCE ( ?a , ?b , ?c )"},
		{append(row(16, a), coalesced(16)), "COALESCE ( ?a" + strings.Repeat(" , ?a", 15) + " )"},
		{[]api.Part{a, b, of(api.XSub), c, of(api.XSub)}, "( ( ?a - ?b ) - ?c )"},
		{[]api.Part{a, b, c, of(api.XSub), of(api.XSub)}, "( ?a - ( ?b - ?c ) )"},
		{[]api.Part{a, digits("1"), digits("2"), of(api.XMul), of(api.XAdd)}, `( ?a + ( "1"` + integer + ` * "2"` + integer + ` ) )`},
		{[]api.Part{a, b, of(api.XOr), of(api.XNot), bound("c"), c, of(api.XStr), a, b, coalesced(2), of(api.XIf), of(api.XEq)}, "( ! ( ?a || ?b ) = IF ( BOUND ( ?c ) , STR ( ?c ) , COALESCE ( ?a , ?b ) ) )"},
	} {
		if s, e := formula.Text(one.f); s != one.want || e != api.OK {
			t.Errorf("%q %d; not %q", s, e, one.want)
		}
	}
}

// P6.1: the text of MaxFormula parts, of which as many as can be are as long as can be.
func TestTextOfLongTerms(t *testing.T) {
	x := typed(strings.Repeat("\"", api.MaxText), strings.Repeat("t", api.MaxText))
	s, e := term.Text(x)
	if e != api.OK {
		t.Fatal(e)
	}
	f := []api.Part{value(x)}
	want := s
	for range (api.MaxFormula - 1) / 2 {
		f = append(f, value(x), of(api.XAdd))
	}
	want = strings.Repeat("( ", len(f)/2) + want + strings.Repeat(" + "+s+" )", len(f)/2)
	if got, e := formula.Text(f); got != want || e != api.OK {
		t.Errorf("%d bytes, %d; not %d", len(got), e, len(want))
	}
}

// P6.1: names in order, each once, of anything.
func TestVars(t *testing.T) {
	for _, one := range []struct {
		f    []api.Part
		want []string
	}{
		{nil, nil},
		{[]api.Part{}, nil},
		{[]api.Part{digits("1")}, nil},
		{[]api.Part{asked("a")}, []string{"a"}},
		{[]api.Part{bound("a")}, []string{"a"}},
		{[]api.Part{asked("b"), asked("a"), of(api.XAdd), bound("c"), of(api.XAnd)}, []string{"b", "a", "c"}},
		{[]api.Part{asked("a"), bound("a"), of(api.XAnd), asked("b"), asked("a"), coalesced(3)}, []string{"a", "b"}},
		{[]api.Part{bound("z"), asked("y"), bound("z"), asked("Z"), asked("y")}, []string{"z", "y", "Z"}}, // no formula
		{[]api.Part{asked("a"), of(99), of(api.XAnd), bound("b")}, []string{"a", "b"}},
		{[]api.Part{value(api.Term{Kind: api.Var, Text: "x"})}, nil},
		{[]api.Part{{Kind: api.XTerm, Name: "x"}, {Kind: api.XNot, Name: "y"}, {Kind: api.XCoalesce, Name: "z"}, {Name: "w"}, {Kind: 99, Name: "v"}}, nil},
		{[]api.Part{{Kind: api.XVar, Name: "x", Term: iri("a"), N: 7}}, []string{"x"}},
	} {
		if l := formula.Vars(one.f); !slices.Equal(l, one.want) {
			t.Errorf("%+v: %q", one.f, l)
		}
	}
	var f []api.Part
	var want []string
	for i := range 1 << 16 {
		s := "x" + strconv.Itoa(i%50000)
		f = append(f, asked(s), of(api.XAnd), bound(s))
		if i < 50000 {
			want = append(want, s)
		}
	}
	if l := formula.Vars(f); !slices.Equal(l, want) {
		t.Errorf("%d names; not %d", len(l), len(want))
	}
}

// P6.1: places of the first part, of formulas written out, and places that are none.
func TestFrom(t *testing.T) {
	a := asked("a")
	for _, one := range []struct {
		f    []api.Part
		want []int
	}{
		{[]api.Part{a}, []int{0}},
		{[]api.Part{a, of(api.XNot), of(api.XNeg)}, []int{0, 0, 0}},
		{[]api.Part{a, digits("1"), digits("2"), of(api.XMul), of(api.XAdd)}, []int{0, 1, 2, 1, 0}},
		{[]api.Part{a, a, of(api.XSub), a, of(api.XSub)}, []int{0, 1, 0, 3, 0}},
		{[]api.Part{a, a, of(api.XNot), bound("b"), of(api.XIf)}, []int{0, 1, 1, 3, 0}},
		{[]api.Part{a, a, coalesced(1), a, a, coalesced(2), a, coalesced(4)}, []int{0, 1, 1, 3, 4, 3, 6, 0}},
		{append(row(16, a), coalesced(16)), []int{0, 1, 2, 3, 4, 5, 6, 7, 8, 9, 10, 11, 12, 13, 14, 15, 0}},
	} {
		for i, want := range one.want {
			if n, e := formula.From(one.f, i); n != want || e != api.OK {
				t.Errorf("%+v from %d: %d %d", one.f, i, n, e)
			}
		}
		for _, i := range []int{-1, -2, len(one.f), len(one.f) + 1, math.MinInt, math.MaxInt, 1 << 32, -1 << 32} {
			if n, e := formula.From(one.f, i); n != 0 || e != api.ErrRange {
				t.Errorf("%+v from %d: %d %d", one.f, i, n, e)
			}
		}
	}
}

// P6.1: formulas of any size: they are ones, their texts, and each part's first one; what stands from there on is a formula by itself.
func TestGrown(t *testing.T) {
	r := rand.New(rand.NewPCG(6, 1))
	for i := range 400 {
		x := grown(r, 1+i*7%api.MaxFormula)
		f := x.parts()
		if e := formula.Check(f); e != api.OK {
			t.Fatalf("%+v: %d", f, e)
		}
		if s, e := formula.Text(f); s != x.text(t) || e != api.OK {
			t.Fatalf("%q %d; not %q", s, e, x.text(t))
		}
		for j, want := range x.firsts(0) {
			if n, e := formula.From(f, j); n != want || e != api.OK {
				t.Fatalf("%+v from %d: %d %d", f, j, n, e)
			}
			if e := formula.Check(f[want : j+1]); e != api.OK {
				t.Fatalf("%+v: %d", f[want:j+1], e)
			}
		}
		checkRefused(t, f[1:], api.ErrForm)
		if plainNeeds(x.part) != 1 {
			checkRefused(t, f[:len(f)-1], api.ErrForm)
		}
	}
}

// P6.1: what is handed in stays as it is, to the end of its room, and what is answered is new.
func TestFormulasUntouched(t *testing.T) {
	r := rand.New(rand.NewPCG(6, 2))
	for range 100 {
		f := grown(r, 60).parts()
		room := append(slices.Clone(f), row(9, of(-7))...)
		was := slices.Clone(room)
		given := room[:len(f)]
		formula.Needs(given[0])
		formula.Check(given)
		formula.Text(given)
		formula.From(given, len(f)-1)
		l, k := formula.Vars(given), formula.Vars(given)
		if !slices.Equal(room, was) {
			t.Fatalf("%+v; not %+v", room, was)
		}
		want := slices.Clone(k)
		for i := range l {
			l[i] = "!"
		}
		if !slices.Equal(k, want) || !slices.Equal(formula.Vars(given), want) {
			t.Fatalf("%q; not %q", k, want)
		}
	}
}
