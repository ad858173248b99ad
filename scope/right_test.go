package scope_test

import (
	"math"
	"slices"
	"strconv"
	"strings"
	"testing"

	"legation/api"
	"legation/scope"
)

// numbered tells n names, from a number on.
func numbered(from, n int) []string {
	var l []string
	for i := range n {
		l = append(l, "v"+strconv.Itoa(from+i))
	}
	return l
}

// P7.1: each kind, and kinds that are none, whatever an operation has beside.
func TestNeeds(t *testing.T) {
	want := map[int]int{
		api.OBasic: 0, api.OTable: 0,
		api.OFilter: 1, api.OExtend: 1, api.OService: 1,
		api.OJoin: 2, api.OUnion: 2, api.OLeft: 2, api.OMinus: 2,
	}
	for kind := -3; kind < 20; kind++ {
		n, is := want[kind]
		if !is {
			n = -1
		}
		for _, o := range []api.Op{of(kind), {Kind: kind, Name: "?", Silent: true}, {Kind: kind, Triples: make([]api.Triple, 40), Formula: make([]api.Part, 1)}} {
			if m := scope.Needs(o); m != n {
				t.Errorf("%s: %d", brief(o), m)
			}
		}
	}
	for _, kind := range []int{math.MinInt, math.MaxInt, math.MinInt32, math.MaxInt32, 1<<32 + api.OBasic, 1<<32 + api.OJoin, 256 + api.OFilter} {
		if n := scope.Needs(of(kind)); n != -1 {
			t.Errorf("%d: %d", kind, n)
		}
	}
}

// rightOps are operations that are right by themselves, those at edges among them.
func rightOps() []api.Op {
	x, y, a := variable("x"), variable("y"), iri("a")
	long := strings.Repeat("v", 32)
	longest := iri(strings.Repeat("i", api.MaxText))
	sum := []api.Part{{Kind: api.XVar, Name: "x"}, {Kind: api.XVar, Name: "y"}, {Kind: api.XAdd}}
	most := append(asked("x"), slices.Repeat([]api.Part{{Kind: api.XNot}}, api.MaxFormula-1)...)
	return []api.Op{
		patterns(), patterns(triple(x, a, y)), patterns(triple(x, x, x)), patterns(triple(a, a, a)), patterns(triple(x, a, literal(""))), patterns(triple(longest, y, x)),
		patterns(triple(x, a, y), triple(x, a, y)), patterns(slices.Repeat([]api.Triple{triple(x, y, a)}, 31)...), patterns(slices.Repeat([]api.Triple{triple(x, y, a)}, 32)...),
		given(nil), given(nil, nil), given(nil, []api.Term{}, nil), given(nil, make([][]api.Term, api.MaxBatch)...),
		given([]string{"x"}), given([]string{"x", "y"}, []api.Term{a, {}}, []api.Term{{}, {}}, []api.Term{a, {}}), given([]string{"x", "X", long}, []api.Term{longest, literal("é"[:0]), {Kind: api.Literal, Text: "a", Lang: "en"}}),
		given([]string{"x"}, []api.Term{{Kind: api.Literal, Text: strings.Repeat("l", api.MaxText), Type: strings.Repeat("t", api.MaxText)}}),
		given(numbered(0, api.MaxVars)), given(numbered(0, api.MaxVars), slices.Repeat([][]api.Term{make([]api.Term, api.MaxVars)}, api.MaxBatch)...), given([]string{"x"}, slices.Repeat([][]api.Term{{a}}, api.MaxBatch-1)...),
		of(api.OJoin), of(api.OUnion), of(api.OMinus),
		of(api.OLeft), left([]api.Part{}), left(asked("x")), left(sum), left(most),
		filter("x"), {Kind: api.OFilter, Formula: sum}, {Kind: api.OFilter, Formula: most},
		extend("x"), extend("q"), extend(long), {Kind: api.OExtend, Formula: most, Name: "z"},
		service("e"), silent("e"), service("http://t/?q=1&r=(2)#x"), silent(longest.Text), service("?x"), service("1"),
	}
}

// P7.1: what is right by itself, with and without lists that have no elements.
func TestRight(t *testing.T) {
	for _, o := range rightOps() {
		if !scope.Right(o) {
			t.Errorf("%s", brief(o))
		}
		if len(o.Triples) == 0 {
			o.Triples = []api.Triple{}
		}
		if len(o.Formula) == 0 {
			o.Formula = []api.Part{}
		}
		if len(o.Table.Vars) == 0 {
			o.Table.Vars = []string{}
		}
		if len(o.Table.Rows) == 0 {
			o.Table.Rows = [][]api.Term{}
		}
		if !scope.Right(o) {
			t.Errorf("with lists that have no elements: %s", brief(o))
		}
	}
}

// misplaced are operations that are right but for what does not belong to their kind.
func misplaced() []api.Op {
	var l []api.Op
	for _, o := range rightOps() {
		if o.Kind != api.OBasic {
			for _, x := range []api.Triple{{}, triple(variable("x"), iri("a"), iri("b"))} {
				p := o
				p.Triples = []api.Triple{x}
				l = append(l, p)
			}
		}
		if o.Kind != api.OTable {
			for _, x := range []api.Table{{Vars: []string{"z"}}, {Vars: []string{""}}, {Rows: [][]api.Term{nil}}, {Rows: [][]api.Term{{iri("a")}}}, {Vars: []string{"z"}, Rows: [][]api.Term{{iri("a")}}}} {
				p := o
				p.Table = x
				l = append(l, p)
			}
		}
		if o.Kind != api.OFilter && o.Kind != api.OExtend && o.Kind != api.OLeft {
			for _, x := range [][]api.Part{asked("x"), {{}}} {
				p := o
				p.Formula = x
				l = append(l, p)
			}
		}
		if o.Kind != api.OExtend && o.Kind != api.OService {
			for _, s := range []string{"z", "?", " "} {
				p := o
				p.Name = s
				l = append(l, p)
			}
		}
		if o.Kind != api.OService {
			p := o
			p.Silent = true
			l = append(l, p)
		}
	}
	return l
}

// wrongTerms are terms that may not stand in a table's row.
func wrongTerms() []api.Term {
	return []api.Term{
		variable("x"), blank("b"), variable(""), blank(""), {Kind: -1}, {Kind: 5}, {Kind: 5, Text: "a"}, {Kind: math.MaxInt, Text: "a"}, {Kind: math.MinInt}, {Kind: 1<<32 + api.Iri, Text: "a"}, {Kind: 1 << 32},
		{Text: "a"}, {Type: "t"}, {Lang: "en"},
		iri(""), iri("a b"), iri("é"), iri("<a>"), iri(strings.Repeat("i", api.MaxText+1)), {Kind: api.Iri, Text: "a", Type: "t"}, {Kind: api.Iri, Text: "a", Lang: "en"},
		literal("\x00"), literal("é"), literal(strings.Repeat("l", api.MaxText+1)), {Kind: api.Literal, Text: "a", Type: "t t"}, {Kind: api.Literal, Text: "a", Lang: "EN"}, {Kind: api.Literal, Text: "a", Type: "t", Lang: "en"},
	}
}

// wrongBasics are OBasics that are not right.
func wrongBasics() []api.Op {
	x, a, right := variable("x"), iri("a"), triple(variable("x"), iri("a"), variable("y"))
	l := []api.Op{
		patterns(slices.Repeat([]api.Triple{right}, 33)...), patterns(slices.Repeat([]api.Triple{right}, 1<<16)...), patterns(make([]api.Triple, 1<<16)...),
		patterns(api.Triple{}), patterns(triple(literal("a"), a, x)), patterns(triple(x, literal("a"), x)), patterns(triple(blank("b"), a, x)), patterns(triple(x, a, blank("b"))), patterns(triple(x, blank("b"), x)),
		patterns(triple(blank("b"), a, a)), patterns(triple(a, a, blank("b"))), patterns(triple(blank("b"), a, literal("c"))), patterns(triple(literal("c"), a, a)), patterns(triple(a, literal("c"), a)), // triples, some of them
	}
	for _, y := range []api.Term{{}, variable(""), variable("?x"), variable(strings.Repeat("v", 33)), {Kind: api.Var, Text: "x", Lang: "en"}, iri(""), iri("a b"), {Kind: 5, Text: "x"}, {Kind: -1, Text: "x"}} {
		for _, p := range []api.Triple{triple(y, a, x), triple(x, y, a), triple(a, x, y)} {
			l = append(l, patterns(p), patterns(right, p), patterns(p, right), patterns(append(slices.Repeat([]api.Triple{right}, 31), p)...))
		}
	}
	return l
}

// wrongTables are OTables that are not right.
func wrongTables() []api.Op {
	a := iri("a")
	l := []api.Op{
		given(numbered(0, api.MaxVars+1)), given(numbered(0, 1<<14)), given(slices.Repeat([]string{"x"}, 1<<16)), given(numbered(0, api.MaxVars+1), make([]api.Term, api.MaxVars+1)),
		given([]string{"x"}, slices.Repeat([][]api.Term{{a}}, api.MaxBatch+1)...), given(nil, make([][]api.Term, api.MaxBatch+1)...), given(nil, make([][]api.Term, 1<<16)...),
		given([]string{"x", "x"}), given([]string{"x", "y", "x"}, []api.Term{a, a, a}), given([]string{"x", "y", "z", "z"}), given(append(numbered(0, api.MaxVars-1), "v0")),
		given([]string{"x"}, nil), given([]string{"x"}, []api.Term{}), given([]string{"x"}, []api.Term{a, a}), given([]string{"x"}, []api.Term{a}, []api.Term{a}, []api.Term{a, {}}),
		given([]string{"x", "y"}, []api.Term{a}), given([]string{"x", "y"}, []api.Term{a, a}, []api.Term{a}), given([]string{"x", "y"}, []api.Term{a, a, a}),
		given(nil, []api.Term{a}), given(nil, nil, []api.Term{{}}), given(nil, make([]api.Term, 1<<16)), given([]string{"x"}, slices.Repeat([]api.Term{a}, 1<<16)),
	}
	for _, s := range []string{"", "?x", "1", "_", "x y", "é", "x\x00", strings.Repeat("v", 33)} {
		l = append(l, given([]string{s}), given([]string{"x", s}), given([]string{s, "x"}, []api.Term{a, a}))
	}
	for _, y := range wrongTerms() {
		l = append(l, given([]string{"x"}, []api.Term{y}), given([]string{"x", "y"}, []api.Term{a, a}, []api.Term{a, y}), given([]string{"x", "y"}, []api.Term{y, a}, []api.Term{a, a}))
	}
	return l
}

// wrongFormulas are rows of parts that are no formulas, but for that without parts.
func wrongFormulas() [][]api.Part {
	not := api.Part{Kind: api.XNot}
	return [][]api.Part{
		{{}}, {not}, append(asked("x"), asked("y")...), asked(""), asked("?x"), append(asked("x"), api.Part{Kind: api.XAnd}), append(asked("x"), api.Part{Kind: 99}),
		{{Kind: api.XTerm, Term: variable("x")}}, {{Kind: api.XTerm, Term: blank("b")}}, {{Kind: api.XTerm, Term: iri("a b")}}, {{Kind: api.XVar, Name: "x", N: 1}},
		append(asked("x"), slices.Repeat([]api.Part{not}, api.MaxFormula)...), slices.Repeat(asked("x"), 1<<16),
	}
}

// wrongOps are operations that are not right, of each kind.
func wrongOps() []api.Op {
	l := slices.Concat(misplaced(), wrongBasics(), wrongTables())
	for _, f := range wrongFormulas() {
		l = append(l, api.Op{Kind: api.OFilter, Formula: f}, left(f), api.Op{Kind: api.OExtend, Formula: f, Name: "z"})
	}
	for _, f := range [][]api.Part{nil, {}} {
		l = append(l, api.Op{Kind: api.OFilter, Formula: f}, api.Op{Kind: api.OExtend, Formula: f, Name: "z"})
	}
	for _, s := range []string{"", "?z", "1", "_z", "y z", "http://t", "é", "z\x00", strings.Repeat("v", 33)} {
		l = append(l, extend(s))
	}
	for _, s := range []string{"", " ", "a b", "<e>", "é", "e\n", "\x7f", strings.Repeat("i", api.MaxText+1)} {
		l = append(l, service(s), silent(s))
	}
	for _, kind := range []int{0, -1, 10, math.MinInt, math.MaxInt, 1<<32 + api.OBasic, 1<<32 + api.OJoin, 256 + api.OFilter} {
		l = append(l, of(kind), api.Op{Kind: kind, Formula: asked("x"), Name: "z"})
	}
	return l
}

// P7.1: what is not right by itself is in no code, where it finds what it needs.
func TestRightOfWrong(t *testing.T) {
	for _, o := range wrongOps() {
		if scope.Right(o) {
			t.Errorf("%s", brief(o))
		}
		n := max(plainNeeds(o.Kind), 0)
		c := append(slices.Repeat([]api.Op{basic("x")}, n), o)
		if n > 1 {
			c[1] = basic("y")
		}
		checkRefused(t, c, api.ErrForm)
		checkRefused(t, append(c, filter("x")), api.ErrForm)
		checkRefused(t, append(c, basic("x"), of(api.OUnion)), api.ErrForm)
		if t.Failed() {
			return
		}
	}
}

// P7.1: what is right by itself is in a code, where it finds what it needs.
func TestCheckOfRight(t *testing.T) {
	for _, o := range rightOps() {
		n := plainNeeds(o.Kind)
		for k := range n + 3 {
			c := append(slices.Repeat([]api.Op{basic("w")}, k), o)
			if k != n {
				checkRefused(t, c, api.ErrForm)
			} else if e := scope.Check(c); e != api.OK {
				t.Errorf("%s: %d", brief(c), e)
			}
			if k > 0 {
				checkRefused(t, append([]api.Op{o}, c[:k]...), api.ErrForm)
			}
		}
	}
}
