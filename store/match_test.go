package store_test

import (
	"math/rand/v2"
	"slices"
	"testing"

	"legation/api"
	"legation/store"
)

// somePatterns are all right patterns of a few terms and of three variables.
func somePatterns() []api.Triple {
	a, b, c, x, y, z := iri("a"), iri("b"), iri("c"), variable("x"), variable("y"), variable("a")
	var l []api.Triple
	for _, s := range []api.Term{a, b, c, x, y, z} {
		for _, p := range []api.Term{a, b, c, x, y, z} {
			for _, o := range []api.Term{a, b, c, literal("a"), literal("b"), worded("a", "en"), worded("a", "de"), typed("a", "t"), x, y, z} {
				l = append(l, triple(s, p, o))
			}
		}
	}
	return l
}

// wrongPatterns are patterns that are not right, blank nodes among them.
func wrongPatterns() []api.Triple {
	a, x := iri("a"), variable("x")
	l := []api.Triple{{}, triple(literal("a"), x, x), triple(x, literal("a"), x)}
	for _, y := range []api.Term{{}, blank("a"), variable(""), variable("?x"), variable("1"), {Kind: api.Var, Text: "x", Type: "t"}, {Kind: api.Var, Text: "x", Lang: "en"}, {Kind: 5, Text: "x"}, {Kind: -1, Text: "x"}, iri(""), iri("a b"), {Kind: api.Iri, Text: "a", Lang: "en"}, {Kind: api.Literal, Text: "a", Type: "t", Lang: "en"}} {
		l = append(l, triple(y, a, a), triple(a, y, a), triple(a, a, y), triple(y, x, x), triple(x, y, x), triple(x, x, y))
	}
	return l
}

// plainMatch tells the rows of p among triples in order, as the chapter words them.
func plainMatch(l []api.Triple, p api.Triple) api.Table {
	var m api.Table
	pattern := []api.Term{p.S, p.P, p.O}
	for _, x := range pattern {
		if x.Kind == api.Var && !slices.Contains(m.Vars, x.Text) {
			m.Vars = append(m.Vars, x.Text)
		}
	}
triples:
	for _, t := range l {
		bound := map[string]api.Term{}
		for i, x := range []api.Term{t.S, t.P, t.O} {
			if pattern[i].Kind != api.Var {
				if pattern[i] != x {
					continue triples
				}
				continue
			}
			if was, is := bound[pattern[i].Text]; is && was != x {
				continue triples
			}
			bound[pattern[i].Text] = x
		}
		var r []api.Term
		for _, name := range m.Vars {
			r = append(r, bound[name])
		}
		m.Rows = append(m.Rows, r)
	}
	return m
}

func sameTable(a, b api.Table) bool {
	return slices.Equal(a.Vars, b.Vars) && slices.EqualFunc(a.Rows, b.Rows, slices.Equal)
}

// checkMatch holds Match and Ask of p against a table.
func checkMatch(t *testing.T, s *store.Store, p api.Triple, want api.Table) {
	t.Helper()
	if m, e := s.Match(p); !sameTable(m, want) || e != api.OK {
		t.Fatalf("%.300v: %.300v %d; not %.300v", p, m, e, want)
	}
	if is, e := s.Ask(p); is != (len(want.Rows) > 0) || e != api.OK {
		t.Fatalf("%.300v: %v %d; not %d rows", p, is, e, len(want.Rows))
	}
}

// P4.2: patterns written out: without a variable, with one, two and three, with one twice and three times.
func TestMatch(t *testing.T) {
	a, b, c, x, y, z := iri("a"), iri("b"), iri("c"), variable("x"), variable("y"), variable("z")
	n, w := blank("n"), literal("w")
	s := of(t, []api.Triple{triple(n, b, n), triple(c, a, b), triple(a, b, w), triple(a, b, c), triple(a, c, a), triple(b, b, b), triple(a, b, a)})
	type row = []api.Term
	for _, one := range []struct {
		p    api.Triple
		vars []string
		rows []row
	}{
		{triple(a, b, c), nil, []row{{}}}, {triple(a, b, w), nil, []row{{}}}, {triple(a, b, b), nil, nil}, {triple(a, a, a), nil, nil},
		{triple(a, b, x), []string{"x"}, []row{{a}, {c}, {w}}}, {triple(a, x, a), []string{"x"}, []row{{b}, {c}}}, {triple(x, b, w), []string{"x"}, []row{{a}}},
		{triple(x, b, a), []string{"x"}, []row{{a}}}, {triple(c, b, x), []string{"x"}, nil}, {triple(b, x, a), []string{"x"}, nil}, {triple(x, c, b), []string{"x"}, nil},
		{triple(a, x, y), []string{"x", "y"}, []row{{b, a}, {b, c}, {b, w}, {c, a}}},
		{triple(x, b, y), []string{"x", "y"}, []row{{a, a}, {a, c}, {a, w}, {b, b}, {n, n}}},
		{triple(x, y, b), []string{"x", "y"}, []row{{b, b}, {c, a}}},
		{triple(y, x, b), []string{"y", "x"}, []row{{b, b}, {c, a}}},
		{triple(iri("nowhere"), x, y), []string{"x", "y"}, nil}, {triple(x, y, literal("a")), []string{"x", "y"}, nil},
		{triple(x, b, x), []string{"x"}, []row{{a}, {b}, {n}}}, {triple(x, c, x), []string{"x"}, []row{{a}}}, {triple(x, a, x), []string{"x"}, nil},
		{triple(x, x, b), []string{"x"}, []row{{b}}}, {triple(x, x, a), []string{"x"}, nil}, {triple(b, x, x), []string{"x"}, []row{{b}}}, {triple(a, x, x), []string{"x"}, nil},
		{triple(x, x, x), []string{"x"}, []row{{b}}},
		{triple(x, y, x), []string{"x", "y"}, []row{{a, b}, {a, c}, {b, b}, {n, b}}}, {triple(y, x, y), []string{"y", "x"}, []row{{a, b}, {a, c}, {b, b}, {n, b}}},
		{triple(x, x, y), []string{"x", "y"}, []row{{b, b}}}, {triple(y, x, x), []string{"y", "x"}, []row{{b, b}}},
		{triple(x, y, z), []string{"x", "y", "z"}, []row{{a, b, a}, {a, b, c}, {a, b, w}, {a, c, a}, {b, b, b}, {c, a, b}, {n, b, n}}},
		{triple(z, y, x), []string{"z", "y", "x"}, []row{{a, b, a}, {a, b, c}, {a, b, w}, {a, c, a}, {b, b, b}, {c, a, b}, {n, b, n}}},
	} {
		checkMatch(t, s, one.p, api.Table{Vars: one.vars, Rows: one.rows})
	}
}

// P4.2, P4.4: all patterns of a few terms, in stores of all sorts, as the chapter words them; put into the pattern, each row is a triple that is there, and they are all that match.
func TestMatchPlainly(t *testing.T) {
	r, l := rand.New(rand.NewPCG(4, 2)), all()
	for i := range 60 {
		r.Shuffle(len(l), func(i, j int) { l[i], l[j] = l[j], l[i] })
		in := l[:i*len(l)/59]
		s, ordered := of(t, in), sorted(in)
		for _, p := range somePatterns() {
			want := plainMatch(ordered, p)
			checkMatch(t, s, p, want)
			m, _ := s.Match(p)
			var back []api.Triple
			for _, row := range m.Rows {
				back = append(back, instead(p, m.Vars, row))
			}
			if len(back) != len(sorted(back)) || !slices.Equal(back, sorted(back)) || len(back) != len(want.Rows) {
				t.Fatalf("%v: %v", p, back)
			}
			for _, x := range back {
				if !s.Has(x) {
					t.Fatalf("%v: %v is not there", p, x)
				}
			}
		}
	}
}

// instead tells p with a row's terms where its variables are.
func instead(p api.Triple, names []string, row []api.Term) api.Triple {
	f := func(x api.Term) api.Term {
		if at := slices.Index(names, x.Text); x.Kind == api.Var && at >= 0 {
			return row[at]
		}
		return x
	}
	return triple(f(p.S), f(p.P), f(p.O))
}

// P4.2: what was taken out matches no more, what came back does again.
func TestMatchBehindChanges(t *testing.T) {
	r, l, s := rand.New(rand.NewPCG(4, 3)), all(), store.New()
	for range 150 {
		for range 5 {
			s.Add(l[r.IntN(len(l))])
			s.Remove(l[r.IntN(len(l))])
			s.Add(l[r.IntN(len(l))])
		}
		for _, p := range somePatterns() {
			checkMatch(t, s, p, plainMatch(s.All(), p))
		}
	}
}

// P4.2: what is not right as a pattern is refused, of a store with and without triples, also if it is right as a triple that is there.
func TestMatchWrong(t *testing.T) {
	for _, s := range []*store.Store{store.New(), of(t, all())} {
		for _, p := range append(wrongPatterns(), triple(blank("a"), iri("a"), iri("a")), triple(iri("a"), iri("a"), blank("a"))) {
			if m, e := s.Match(p); len(m.Vars) != 0 || len(m.Rows) != 0 || e != api.ErrForm {
				t.Errorf("%v: %v %d", p, m, e)
			}
			if is, e := s.Ask(p); is || e != api.ErrForm {
				t.Errorf("%v: %v %d", p, is, e)
			}
		}
		for _, p := range somePatterns() {
			if _, e := s.Match(p); e != api.OK {
				t.Errorf("%v: %d", p, e)
			}
		}
	}
}

// P4.5: three variables: as many rows as triples, up to MaxTriples; patterns of a full store.
func TestMatchAll(t *testing.T) {
	p := triple(variable("s"), variable("p"), variable("o"))
	l := numbered(api.MaxTriples)
	for _, n := range []int{0, 1, 2, 3, 100, api.MaxTriples - 1, api.MaxTriples} {
		m, e := of(t, l[:n]).Match(p)
		if len(m.Rows) != n || !slices.Equal(put(m, "s", "p", "o"), l[:n]) || e != api.OK {
			t.Errorf("%d: %d rows, %d", n, len(m.Rows), e)
		}
	}
	s := of(t, l)
	for i := range 7 {
		p.P = iri([]string{"p0", "p1", "p2", "p3", "p4", "p5", "p6"}[i])
		checkMatch(t, s, p, plainMatch(l, p))
		p.O = l[i].O
		checkMatch(t, s, p, plainMatch(l, p))
		p.P = variable("p")
		checkMatch(t, s, p, plainMatch(l, p))
		p.O = variable("o")
	}
	one := triple(iri("one"), iri("p0"), literal("0"))
	if _, e := s.Add(one); e != api.ErrLong {
		t.Errorf("%d", e)
	}
	if is, e := s.Ask(one); is || e != api.OK {
		t.Errorf("%v %d", is, e)
	}
}

// P4.2, rule 3: a table is new memory, no row of it shares any with another one, and later calls do not change it.
func TestMatchMemory(t *testing.T) {
	for _, p := range somePatterns() {
		s := of(t, all())
		want := plainMatch(sorted(all()), p)
		m, _ := s.Match(p)
		kept, _ := s.Match(p)
		for i := range m.Rows {
			r := m.Rows[i]
			clear(r[:cap(r)])
			for _, other := range m.Rows[i+1:] {
				if slices.Contains(other, api.Term{}) {
					t.Fatalf("%v: two rows share memory", p)
				}
			}
		}
		clear(m.Rows[:cap(m.Rows)])
		clear(m.Vars[:cap(m.Vars)])
		checkHolds(t, s, sorted(all()))
		checkMatch(t, s, p, want)
		for _, x := range all() {
			s.Remove(x)
		}
		s.Add(triple(iri("z"), iri("z"), iri("z")))
		if !sameTable(kept, want) {
			t.Fatalf("%v: %v; not %v", p, kept, want)
		}
	}
}
