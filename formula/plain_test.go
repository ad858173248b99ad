package formula_test

import (
	"fmt"
	"math/rand/v2"
	"slices"
	"strings"
	"testing"

	"legation/api"
	"legation/lex"
	"legation/term"
)

// The tests' own reading of the chapter: a formula as a tree, which is laid out as parts and as a text, and a rule a function for what is read. It leans on the layers below alone.

func iri(s string) api.Term         { return api.Term{Kind: api.Iri, Text: s} }
func literal(s string) api.Term     { return api.Term{Kind: api.Literal, Text: s} }
func typed(s, kind string) api.Term { return api.Term{Kind: api.Literal, Text: s, Type: kind} }
func worded(s, language string) api.Term {
	return api.Term{Kind: api.Literal, Text: s, Lang: language}
}

func value(t api.Term) api.Part   { return api.Part{Kind: api.XTerm, Term: t} }
func digits(s string) api.Part    { return value(typed(s, api.TypeInteger)) }
func asked(name string) api.Part  { return api.Part{Kind: api.XVar, Name: name} }
func bound(name string) api.Part  { return api.Part{Kind: api.XBound, Name: name} }
func of(kind int) api.Part        { return api.Part{Kind: kind} }
func coalesced(n int) api.Part    { return api.Part{Kind: api.XCoalesce, N: n} }
func sign(s string) api.Token     { return api.Token{Kind: api.TSign, Text: s} }
func name(s string) api.Token     { return api.Token{Kind: api.TWord, Text: s} }
func variable(s string) api.Token { return api.Token{Kind: api.TVar, Text: s} }
func number(s string) api.Token   { return api.Token{Kind: api.TNum, Text: s} }
func stated(t api.Term) api.Token { return api.Token{Kind: api.TTerm, Term: t} }

const (
	integer = "^^<" + api.TypeInteger + ">"
	boolean = "^^<" + api.TypeBoolean + ">"
)

// signs are the signs between two, by their kinds, each row's binding closer than those of the rows ahead.
var signs = []map[string]int{
	{"||": api.XOr},
	{"&&": api.XAnd},
	{"=": api.XEq, "!=": api.XNe, "<": api.XLt, ">": api.XGt, "<=": api.XLe, ">=": api.XGe},
	{"+": api.XAdd, "-": api.XSub},
	{"*": api.XMul, "/": api.XDiv},
}

// ahead are the signs ahead of one, functions the functions' words.
var (
	ahead     = map[string]int{"!": api.XNot, "-": api.XNeg}
	functions = map[string]int{
		"STR": api.XStr, "LANG": api.XLang, "DATATYPE": api.XType, "ISIRI": api.XIsIri, "ISLITERAL": api.XIsLit, "ISBLANK": api.XIsBlank,
		"SAMETERM": api.XSame, "IF": api.XIf, "COALESCE": api.XCoalesce,
	}
)

// plainNeeds tells how many each kind needs.
func plainNeeds(p api.Part) int {
	switch {
	case p.Kind == api.XCoalesce && p.N >= 1 && p.N <= 16:
		return p.N
	case p.Kind < 1 || p.Kind >= api.XCoalesce:
		return -1
	}
	return []int{-1, 0, 0, 0, 1, 1, 2, 2, 2, 2, 2, 2, 2, 2, 2, 2, 2, 2, 1, 1, 1, 1, 1, 1, 2, 3}[p.Kind]
}

// markOf tells a kind's sign or word.
func markOf(kind int) string {
	for _, l := range append(slices.Clone(signs), ahead, functions) {
		for s, k := range l {
			if k == kind {
				return s
			}
		}
	}
	return ""
}

// tree is a part and what it needs.
type tree struct {
	part   api.Part
	needed []tree
}

// parts lays a tree out, each part behind what it needs.
func (x tree) parts() []api.Part {
	var l []api.Part
	for _, y := range x.needed {
		l = append(l, y.parts()...)
	}
	return append(l, x.part)
}

// firsts tells for each part the place of the first one of those that make its result; n is how many stand ahead of the tree.
func (x tree) firsts(n int) []int {
	var l []int
	for _, y := range x.needed {
		l = append(l, y.firsts(n+len(l))...)
	}
	return append(l, n)
}

// text tells a tree's text, as the chapter words it.
func (x tree) text(t *testing.T) string {
	t.Helper()
	var l []string
	for _, y := range x.needed {
		l = append(l, y.text(t))
	}
	mark := markOf(x.part.Kind)
	switch k := x.part.Kind; {
	case k == api.XTerm:
		s, e := term.Text(x.part.Term)
		if e != api.OK {
			t.Fatalf("%+v", x.part)
		}
		return s
	case k == api.XVar:
		return "?" + x.part.Name
	case k == api.XBound:
		return "BOUND ( ?" + x.part.Name + " )"
	case k == api.XNot || k == api.XNeg:
		return mark + " " + l[0]
	case k <= api.XDiv:
		return "( " + l[0] + " " + mark + " " + l[1] + " )"
	}
	return mark + " ( " + strings.Join(l, " , ") + " )"
}

// leaves are parts that need nothing, those at edges among them.
func leaves() []api.Part {
	return []api.Part{
		asked("a"), asked("b"), asked("TRUE"), asked("x_1"), asked(strings.Repeat("v", 32)), bound("a"), bound("z"), bound(strings.Repeat("v", 32)),
		value(iri("a")), value(iri("http://t/?q=1&r=(2)#x")), value(iri("=")), value(iri("?x")),
		value(literal("")), value(literal("a b")), value(literal("( ?x + 1 )")), value(literal("\"\\\n\t")), value(worded("a", "en")), value(typed("a", "http://t")),
		digits("1"), digits("-1"), digits("007"), digits("x"), value(typed("1.5", api.TypeDecimal)), value(typed("true", api.TypeBoolean)), value(typed("TRUE", api.TypeBoolean)),
	}
}

// inner are parts of each kind that needs something.
func inner() []api.Part {
	var l []api.Part
	for k := api.XNot; k < api.XCoalesce; k++ {
		l = append(l, of(k))
	}
	for n := 1; n <= 16; n++ {
		l = append(l, coalesced(n))
	}
	return l
}

// grown tells some tree of at most n parts, of parts as the choice has it.
func grown(r *rand.Rand, n int) tree {
	all, kinds := leaves(), inner()
	var grow func(n int) tree
	grow = func(n int) tree {
		p := kinds[r.IntN(len(kinds))]
		for try := 0; plainNeeds(p) >= n && try < 9; try++ {
			p = kinds[r.IntN(len(kinds))]
		}
		k := plainNeeds(p)
		if n == 1 || k >= n {
			return tree{part: all[r.IntN(len(all))]}
		}
		x, left := tree{part: p}, n-1
		for i := range k {
			m := left - (k - i - 1)
			if i < k-1 {
				m = 1 + r.IntN(m)
			}
			x.needed = append(x.needed, grow(m))
			left -= m
		}
		return x
	}
	return grow(n)
}

// words tells a text's words, however long it is.
func words(t *testing.T, s string) []api.Token {
	t.Helper()
	var l []api.Token
	for at := 0; ; {
		w, end, e := lex.Next(s, at)
		if e != api.OK {
			t.Fatalf("%.100q: no word behind %d", s, at)
		}
		if w.Kind == 0 {
			return l
		}
		l, at = append(l, w), end
	}
}

// plainReader reads by the chapter's rules, a function each; what can't be read ends it by a panic of its own.
type plainReader struct {
	l     []api.Token
	at    int
	parts []api.Part
}

type none struct{}

// plainParse tells what Parse must answer of words that lex tells.
func plainParse(l []api.Token, at int) (f []api.Part, end int, e api.Errno) {
	if at < 0 || at > len(l) {
		return nil, 0, api.ErrRange
	}
	defer func() {
		switch x := recover(); x {
		case nil:
		case none{}:
			f, end, e = nil, 0, api.ErrForm
		default:
			panic(x)
		}
	}()
	r := &plainReader{l: l, at: at}
	r.disjunction()
	if len(r.parts) > api.MaxFormula {
		return nil, 0, api.ErrLong
	}
	return r.parts, r.at, api.OK
}

func (r *plainReader) peek() api.Token {
	if r.at < len(r.l) {
		return r.l[r.at]
	}
	return api.Token{}
}

func (r *plainReader) must(s string) {
	if w := r.peek(); w.Kind != api.TSign || w.Text != s {
		panic(none{})
	}
	r.at++
}

func (r *plainReader) one(l map[string]int) int {
	w := r.peek()
	if w.Kind != api.TSign || l[w.Text] == 0 {
		return 0
	}
	r.at++
	return l[w.Text]
}

func (r *plainReader) between(l map[string]int, read func()) {
	read()
	for k := r.one(l); k != 0; k = r.one(l) {
		read()
		r.parts = append(r.parts, of(k))
	}
}

func (r *plainReader) disjunction() { r.between(signs[0], r.conjunction) }
func (r *plainReader) conjunction() { r.between(signs[1], r.comparison) }
func (r *plainReader) comparison() {
	r.sum()
	if k := r.one(signs[2]); k != 0 {
		r.sum()
		r.parts = append(r.parts, of(k))
	}
}
func (r *plainReader) sum()     { r.between(signs[3], r.product) }
func (r *plainReader) product() { r.between(signs[4], r.signed) }
func (r *plainReader) signed() {
	if k := r.one(ahead); k != 0 {
		r.signed()
		r.parts = append(r.parts, of(k))
		return
	}
	r.simple()
}

func (r *plainReader) simple() {
	w := r.peek()
	if w.Kind == api.TSign {
		r.must("(")
		r.disjunction()
		r.must(")")
		return
	}
	r.at++
	switch {
	case w.Kind == api.TVar:
		r.parts = append(r.parts, asked(w.Text))
	case w.Kind == api.TTerm && w.Term.Kind != api.Blank:
		r.parts = append(r.parts, value(w.Term))
	case w.Kind == api.TNum:
		r.parts = append(r.parts, digits(w.Text))
	case w == api.Token{Kind: api.TWord, Text: "TRUE", At: w.At}:
		r.parts = append(r.parts, value(typed("true", api.TypeBoolean)))
	case w == api.Token{Kind: api.TWord, Text: "FALSE", At: w.At}:
		r.parts = append(r.parts, value(typed("false", api.TypeBoolean)))
	case w.Kind == api.TWord && w.Text == "BOUND":
		r.must("(")
		v := r.peek()
		if v.Kind != api.TVar {
			panic(none{})
		}
		r.at++
		r.must(")")
		r.parts = append(r.parts, bound(v.Text))
	case w.Kind == api.TWord && functions[w.Text] != 0:
		r.function(functions[w.Text])
	default:
		panic(none{})
	}
}

func (r *plainReader) function(kind int) {
	least, most := plainNeeds(of(kind)), plainNeeds(of(kind))
	if kind == api.XCoalesce {
		least, most = 1, 16
	}
	r.must("(")
	r.disjunction()
	n := 1
	for ; n < most && (n < least || r.peek().Kind == api.TSign && r.peek().Text == ","); n++ {
		r.must(",")
		r.disjunction()
	}
	r.must(")")
	p := of(kind)
	if kind == api.XCoalesce {
		p.N = n
	}
	r.parts = append(r.parts, p)
}

// every hands f each row of at most n things of a few.
func every[T any](few []T, n int, f func([]T)) {
	var longer func(l []T)
	longer = func(l []T) {
		f(l)
		if len(l) == n {
			return
		}
		for _, x := range few {
			longer(append(slices.Clip(l), x))
		}
	}
	longer(nil)
}

// brief tells the beginning of what a thing is.
func brief(x any) string {
	return fmt.Sprintf("%.300s", fmt.Sprintf("%+v", x))
}
