package engine_test

import (
	"math/rand/v2"
	"slices"
	"strings"
	"testing"

	"legation/api"
	"legation/engine"
	"legation/query"
	"legation/scope"
)

// shuffled tells a list's elements in another order.
func shuffled[T any](r *rand.Rand, l []T) []T {
	l = slices.Clone(l)
	r.Shuffle(len(l), func(i, j int) { l[i], l[j] = l[j], l[i] })
	return l
}

// turned tells a tree's code with patterns, and what is joined and united, in another order.
func (x tree) turned(r *rand.Rand) []api.Op {
	kids, o := slices.Clone(x.kids), x.op
	if o.Kind == api.OJoin || o.Kind == api.OUnion {
		kids = shuffled(r, kids)
	}
	o.Triples = shuffled(r, o.Triples)
	var c []api.Op
	for _, kid := range kids {
		c = append(c, kid.turned(r)...)
	}
	return append(c, o)
}

// P14.2: the order of patterns says nothing, but for the order of rows and columns.
func TestPatternsOrder(t *testing.T) {
	r := rand.New(rand.NewPCG(14, 5))
	for range 2000 {
		s, l := grownStore(t, r, 30), grownPatterns(r, 4)
		first, e := engine.Basic(s, l)
		again, d := engine.Basic(s, shuffled(r, l))
		if e != api.OK || d != api.OK || bag(first) != bag(again) {
			t.Fatalf("%s: %s, %d; in another order %s, %d", brief(l), written(first), e, written(again), d)
		}
	}
}

// P14.2: of each order of four patterns the same rows.
func TestEachOrder(t *testing.T) {
	s := stored(t, "a k b|b k c|c k c|c k a|a n 1|b n 2|c n 2|c q 1")
	l := patterns(t, "?x k ?y|?y k ?z|?z n ?n|?u ?p ?n")
	want, _ := engine.Basic(s, l)
	if len(want.Rows) != 12 {
		t.Fatalf("%s", written(want))
	}
	var each func(ahead, l []api.Triple)
	each = func(ahead, l []api.Triple) {
		if len(l) == 0 {
			if got, e := engine.Basic(s, ahead); e != api.OK || bag(got) != bag(want) {
				t.Fatalf("%s: %s, %d; not %s", brief(ahead), written(got), e, written(want))
			}
		}
		for i, p := range l {
			each(append(slices.Clone(ahead), p), slices.Delete(slices.Clone(l), i, i+1))
		}
	}
	each(nil, l)
}

// P14.2: the order of what is joined and united says nothing of a code's rows, and nothing at all of a query's table, whose columns and rows are in an order of their own.
func TestOperandsOrder(t *testing.T) {
	r := rand.New(rand.NewPCG(14, 6))
	moved := 0
	for range 2500 {
		w, q := grownWorld(t, r), grownQuery(t, r, 8)
		x, _ := planted(q.Code)
		c := x.turned(r)
		first, e := engine.Code(w, q.Code)
		again, d := engine.Code(w, c)
		if e == api.OK && d == api.OK && bag(first) != bag(again) || (e == api.OK) != (d == api.OK) && e != api.ErrLong && d != api.ErrLong {
			t.Fatalf("%s: %s, %d; in another order %s, %d", brief(q.Code), written(first), e, written(again), d)
		}
		if !same(first, again) {
			moved++
		}
		first, e = engine.Run(w, q)
		q.Code = c
		again, d = engine.Run(w, q)
		if e == api.OK && d == api.OK && !same(first, again) {
			t.Fatalf("%s: %s; in another order %s", brief(q), written(first), written(again))
		}
	}
	if moved < 100 {
		t.Errorf("just %d in another order", moved)
	}
}

// count tells how often each of a table's rows stands there.
func count(a api.Table) map[string]int {
	n := map[string]int{}
	for _, row := range a.Rows {
		n[written(api.Table{Rows: [][]api.Term{row}})]++
	}
	return n
}

// P14.3: of triples that two stores have their union has each once, and each row once, whichever store comes first.
func TestUnion(t *testing.T) {
	r := rand.New(rand.NewPCG(14, 7))
	shared := 0
	for range 2000 {
		both := grownTriples(r, 8)
		a, b := append(grownTriples(r, 12), both...), append(grownTriples(r, 12), both...)
		l := grownPatterns(r, 3)
		got, e := engine.Basic(storeOf(t, slices.Concat(a, b)), l)
		again, d := engine.Basic(storeOf(t, slices.Concat(b, a, a)), l)
		if e != api.OK || d != api.OK || !same(got, again) {
			t.Fatalf("%s: %s, %d; %s, %d", brief(l), written(got), e, written(again), d)
		}
		for row, n := range count(got) {
			if n != 1 {
				t.Fatalf("%s: %s %d times", brief(l), row, n)
			}
		}
		one, _ := engine.Basic(storeOf(t, a), l)
		other, _ := engine.Basic(storeOf(t, b), l)
		if has := count(other); len(l) == 1 {
			for row := range count(one) {
				shared += has[row]
			}
			union := count(api.Table{Rows: slices.Concat(one.Rows, other.Rows)})
			if len(union) != len(got.Rows) {
				t.Fatalf("%s: %d rows; not %d", brief(l), len(got.Rows), len(union))
			}
		}
	}
	if shared < 100 {
		t.Errorf("just %d rows that both have", shared)
	}
}

// P14.4: one more triple takes no row from an OBasic.
func TestOneMore(t *testing.T) {
	r := rand.New(rand.NewPCG(14, 8))
	came := 0
	for range 2000 {
		had, l := grownTriples(r, 20), grownPatterns(r, 3)
		more := append(grownTriples(r, 3), api.Triple{S: iri("a"), P: iri("k"), O: iri("a")})
		first, e := engine.Basic(storeOf(t, had), l)
		again, d := engine.Basic(storeOf(t, append(had, more[0])), l)
		if e != api.OK || d != api.OK {
			t.Fatalf("%s: %d, %d", brief(l), e, d)
		}
		n := count(again)
		for row, m := range count(first) {
			if n[row] < m {
				t.Fatalf("%s and %v: %s was there", brief(l), more[0], row)
			}
		}
		came += len(again.Rows) - len(first.Rows)
	}
	if came < 500 {
		t.Errorf("just %d rows more", came)
	}
}

// P14.5: what asks tells whether the query that tells all has a row, and errs alike.
func TestAskAndAll(t *testing.T) {
	r := rand.New(rand.NewPCG(14, 9))
	n := [2]int{}
	for range 2500 {
		w, c := grownWorld(t, r), rightCode(t, r, 8)
		names, _ := scope.InScope(c, len(c)-1)
		all := api.Query{Vars: names, Code: c, Limit: -1}
		first, e := engine.Run(w, all)
		ask, d := engine.Run(w, api.Query{Ask: true, Code: c, Limit: -1})
		if query.Check(all) != api.OK || e != d || (len(first.Rows) > 0) != (len(ask.Rows) > 0) || len(ask.Rows) > 1 || len(ask.Vars) > 0 {
			t.Fatalf("%s: %s, %d; asked %s, %d", brief(c), written(first), e, written(ask), d)
		}
		if e == api.OK {
			n[len(ask.Rows)]++
		}
	}
	if min(n[0], n[1]) < 300 {
		t.Errorf("%v", n)
	}
}

// Rule 4: the same calls tell the same, as often as they are made; what stands at the end of a world says nothing of a code that doesn't name it.
func TestAgain(t *testing.T) {
	r := rand.New(rand.NewPCG(14, 10))
	for range 500 {
		w, q := grownWorld(t, r), grownQuery(t, r, 8)
		first, e := engine.Run(w, q)
		v := w
		v.Names, v.Stores = append(slices.Clone(w.Names), "e9"), append(slices.Clone(w.Stores), w.Base)
		for _, w := range []engine.World{w, v} {
			again, d := engine.Run(w, q)
			if e != d || !same(first, again) || strings.Contains(brief(q), "e9") {
				t.Fatalf("%s: %s, %d, then %s, %d", brief(q), written(first), e, written(again), d)
			}
		}
	}
}
