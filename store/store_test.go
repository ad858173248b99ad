package store_test

import (
	"math/rand/v2"
	"slices"
	"strconv"
	"strings"
	"testing"

	"legation/api"
	"legation/store"
	"legation/triples"
)

func iri(s string) api.Term              { return api.Term{Kind: api.Iri, Text: s} }
func blank(s string) api.Term            { return api.Term{Kind: api.Blank, Text: s} }
func variable(s string) api.Term         { return api.Term{Kind: api.Var, Text: s} }
func literal(s string) api.Term          { return api.Term{Kind: api.Literal, Text: s} }
func typed(s, kind string) api.Term      { return api.Term{Kind: api.Literal, Text: s, Type: kind} }
func worded(s, language string) api.Term { return api.Term{Kind: api.Literal, Text: s, Lang: language} }

func triple(s, p, o api.Term) api.Triple { return api.Triple{S: s, P: p, O: o} }

// numbered are n right triples in order, no two alike.
func numbered(n int) []api.Triple {
	l := make([]api.Triple, n)
	for i := range l {
		l[i] = triple(iri("s"+strconv.Itoa(100000+i)), iri("p"+strconv.Itoa(i%7)), literal(strconv.Itoa(i%11)))
	}
	return l
}

// all are all right triples of a few terms, in no order: terms that are alike in Text stand among them, and terms that stand at several places.
func all() []api.Triple {
	var l []api.Triple
	for _, o := range []api.Term{worded("a", "en"), iri("b"), literal("a"), blank("a"), iri("a"), typed("a", "t"), literal("b")} {
		for _, p := range []api.Term{iri("b"), iri("a")} {
			for _, s := range []api.Term{blank("a"), iri("b"), iri("a")} {
				l = append(l, triple(s, p, o))
			}
		}
	}
	return l
}

// wrongTriples are triples that are not right: by a wrong term, by a term that may not stand there, by None, at each place.
func wrongTriples() []api.Triple {
	a := iri("a")
	l := []api.Triple{{}, triple(literal("a"), a, a), triple(a, literal("a"), a), triple(a, blank("a"), a), triple(variable("x"), variable("y"), variable("z"))}
	for _, x := range []api.Term{
		{}, variable("x"), {Kind: -1, Text: "a"}, {Kind: 5, Text: "a"}, {Kind: -1 << 63}, {Kind: 1<<63 - 1}, {Text: "a"},
		iri(""), iri("a b"), iri(strings.Repeat("i", api.MaxText+1)), {Kind: api.Iri, Text: "a", Type: "t"}, {Kind: api.Iri, Text: "a", Lang: "en"},
		blank("1"), blank(strings.Repeat("b", 33)), {Kind: api.Blank, Text: "a", Type: "t"},
		literal("\x00"), typed("a", "t t"), worded("a", "EN"), {Kind: api.Literal, Text: "a", Type: "t", Lang: "en"},
	} {
		l = append(l, triple(x, a, a), triple(a, x, a), triple(a, a, x))
	}
	return l
}

// of tells a store with l's triples.
func of(t *testing.T, l []api.Triple) *store.Store {
	t.Helper()
	s, e := store.Of(l)
	if s == nil || e != api.OK {
		t.Fatalf("%d triples: %v %d", len(l), s, e)
	}
	return s
}

// sorted tells l in order, each triple once.
func sorted(l []api.Triple) []api.Triple {
	l = slices.Clone(l)
	slices.SortFunc(l, triples.Compare)
	return slices.Compact(l)
}

// checkHolds holds a store against a list in order, by all that tells of it.
func checkHolds(t *testing.T, s *store.Store, want []api.Triple) {
	t.Helper()
	if got := s.All(); !slices.Equal(got, want) {
		t.Fatalf("%.300v; not %.300v", got, want)
	}
	if n := s.Len(); n != len(want) {
		t.Fatalf("%d triples; not %d", n, len(want))
	}
	for _, x := range want {
		if !s.Has(x) {
			t.Fatalf("%v is not there", x)
		}
	}
	if m, e := s.Match(triple(variable("s"), variable("p"), variable("o"))); !slices.Equal(put(m, "s", "p", "o"), want) || e != api.OK {
		t.Fatalf("%.300v %d; not %.300v", m, e, want)
	}
}

// put tells a table's rows as triples, by the names of three columns.
func put(m api.Table, names ...string) []api.Triple {
	if !slices.Equal(m.Vars, names) {
		return nil
	}
	l := make([]api.Triple, len(m.Rows))
	for i, r := range m.Rows {
		l[i] = triple(r[0], r[1], r[2])
	}
	return l
}

// P4.1: a store without triples has nothing, and what comes to one does not come to another.
func TestNew(t *testing.T) {
	a, b, x := store.New(), store.New(), triple(iri("a"), iri("b"), iri("c"))
	checkHolds(t, a, nil)
	if a.Has(x) || a.Remove(x) {
		t.Error("something in a new store")
	}
	if is, e := a.Add(x); !is || e != api.OK {
		t.Errorf("%v %d", is, e)
	}
	checkHolds(t, a, []api.Triple{x})
	checkHolds(t, b, nil)
	checkHolds(t, store.New(), nil)
}

// P4.1, P4.2: a nil store refuses all, whether what is handed in is right or not.
func TestNil(t *testing.T) {
	var s *store.Store
	for _, x := range append(append(wrongTriples(), wrongPatterns()...), all()...) {
		if is, e := s.Add(x); is || e != api.ErrState {
			t.Errorf("Add %.60v: %v %d", x, is, e)
		}
		if is, e := s.Ask(x); is || e != api.ErrState {
			t.Errorf("Ask %.60v: %v %d", x, is, e)
		}
		if m, e := s.Match(x); len(m.Vars) != 0 || len(m.Rows) != 0 || e != api.ErrState {
			t.Errorf("Match %.60v: %v %d", x, m, e)
		}
		if s.Has(x) || s.Remove(x) {
			t.Errorf("%.60v is there", x)
		}
	}
	if s.Len() != 0 || len(s.All()) != 0 {
		t.Errorf("%d %v", s.Len(), s.All())
	}
}

// P4.1: stores of lists written out.
func TestOf(t *testing.T) {
	a, b, c := iri("a"), iri("b"), iri("c")
	x, y, z, n := triple(a, b, c), triple(a, b, literal("c")), triple(a, c, a), triple(blank("a"), a, a)
	for _, one := range []struct{ l, want []api.Triple }{
		{nil, nil}, {[]api.Triple{}, nil}, {[]api.Triple{x}, []api.Triple{x}}, {[]api.Triple{x, x}, []api.Triple{x}}, {[]api.Triple{x, x, x}, []api.Triple{x}},
		{[]api.Triple{y, x}, []api.Triple{x, y}}, {[]api.Triple{x, y, x}, []api.Triple{x, y}}, {[]api.Triple{y, x, y, y, x}, []api.Triple{x, y}},
		{[]api.Triple{n, z, y, x}, []api.Triple{x, y, z, n}}, {[]api.Triple{z, n, z, x, x, y, n}, []api.Triple{x, y, z, n}},
	} {
		s := of(t, one.l)
		checkHolds(t, s, one.want)
		for _, x := range all() {
			if s.Has(x) != slices.Contains(one.want, x) {
				t.Errorf("%v: %v", one.l, x)
			}
		}
	}
	checkHolds(t, of(t, all()), sorted(all()))
}

// P4.1: one triple that is not right, wherever it stands, and there is no store; it weighs more than too many.
func TestOfWrong(t *testing.T) {
	check := func(l []api.Triple, want api.Errno) {
		t.Helper()
		if s, e := store.Of(l); s != nil || e != want {
			t.Errorf("%d triples: %v %d; not %d", len(l), s != nil, e, want)
		}
	}
	x, y := triple(iri("a"), iri("b"), iri("c")), triple(iri("a"), iri("b"), iri("d"))
	for _, w := range wrongTriples() {
		for _, l := range [][]api.Triple{{w}, {w, w}, {w, x}, {x, w}, {x, w, y}, {x, x, w}, {x, y, x, w, y}} {
			check(l, api.ErrForm)
		}
	}
	w := triple(iri("a"), iri("b"), variable("x"))
	for _, n := range []int{api.MaxTriples - 1, api.MaxTriples, api.MaxTriples + 1, 2 * api.MaxTriples} {
		for _, at := range []int{0, 1, api.MaxTriples - 1, api.MaxTriples, api.MaxTriples + 1, n} {
			if at <= n {
				check(slices.Insert(numbered(n), at, w), api.ErrForm)
			}
		}
	}
	for _, n := range []int{1, 2, api.MaxTriples} {
		check(numbered(api.MaxTriples+n), api.ErrLong)
		check(append(numbered(api.MaxTriples+n), numbered(7)...), api.ErrLong)
	}
}

// P4.1: MaxTriples triples have room, each as often as one likes.
func TestOfMost(t *testing.T) {
	l := numbered(api.MaxTriples)
	checkHolds(t, of(t, l), l)
	checkHolds(t, of(t, slices.Concat(l, l)), l)
	checkHolds(t, of(t, append(slices.Clone(l), l[5])), l)
	checkHolds(t, of(t, slices.Insert(slices.Clone(l), 0, l[api.MaxTriples-1])), l)
	back := slices.Clone(l)
	slices.Reverse(back)
	checkHolds(t, of(t, append(back, l...)), l)
}

// P4.1: a full store: first whether what comes is right, then whether it is there, then that there is no room.
func TestAddToFull(t *testing.T) {
	l := numbered(api.MaxTriples + 1)
	s, one := of(t, l[:api.MaxTriples]), l[api.MaxTriples]
	check := func(x api.Triple, is bool, want api.Errno) {
		t.Helper()
		if got, e := s.Add(x); got != is || e != want {
			t.Errorf("%.60v: %v %d; not %v %d", x, got, e, is, want)
		}
	}
	for range 2 {
		check(one, false, api.ErrLong)
		check(triple(iri("a"), iri("a"), iri("a")), false, api.ErrLong)
		for _, x := range []api.Triple{l[0], l[1], l[api.MaxTriples/2], l[api.MaxTriples-1]} {
			check(x, false, api.OK)
		}
		for _, w := range wrongTriples() {
			check(w, false, api.ErrForm)
		}
	}
	checkHolds(t, s, l[:api.MaxTriples])
	if !s.Remove(l[7]) || s.Has(one) {
		t.Error("not taken out")
	}
	check(one, true, api.OK)
	check(one, false, api.OK)
	check(l[7], false, api.ErrLong)
	checkHolds(t, s, slices.Delete(slices.Clone(l), 7, 8))
}

// P4.1: the one triple short of MaxTriples comes in, the next one does not.
func TestAddUpToFull(t *testing.T) {
	l := numbered(api.MaxTriples + 1)
	s := store.New()
	for i, x := range l {
		if is, e := s.Add(x); is != (i < api.MaxTriples) || (e == api.OK) != is || !is && e != api.ErrLong || s.Len() != min(i+1, api.MaxTriples) {
			t.Fatalf("%d: %v %d %d", i, is, e, s.Len())
		}
	}
	checkHolds(t, s, l[:api.MaxTriples])
	for i, x := range l {
		if is := s.Remove(x); is != (i < api.MaxTriples) || s.Len() != max(api.MaxTriples-i-1, 0) {
			t.Fatalf("%d: %v %d", i, is, s.Len())
		}
	}
	checkHolds(t, s, nil)
}

// P4.1: what is not right is never there, though a right triple may be nearly like it, and is refused without a change.
func TestWrong(t *testing.T) {
	s := of(t, all())
	for _, w := range wrongTriples() {
		if is, e := s.Add(w); is || e != api.ErrForm {
			t.Errorf("%.60v: %v %d", w, is, e)
		}
		if s.Has(w) || s.Remove(w) {
			t.Errorf("%.60v is there", w)
		}
	}
	for _, w := range []api.Triple{triple(variable("x"), iri("a"), iri("a")), triple(iri("a"), variable("x"), iri("a")), triple(iri("a"), iri("a"), variable("x"))} {
		if is, e := s.Ask(w); !is || e != api.OK || s.Has(w) || s.Remove(w) {
			t.Errorf("a pattern: %v", w)
		}
	}
	checkHolds(t, s, sorted(all()))
}

// P4.1: triples come and go as in a plain set.
func TestAddAndRemove(t *testing.T) {
	r, l, s := rand.New(rand.NewPCG(4, 1)), all(), store.New()
	there := map[api.Triple]bool{}
	for range 3000 {
		x := l[r.IntN(len(l))]
		if r.IntN(2) == 0 {
			if is, e := s.Add(x); is == there[x] || e != api.OK {
				t.Fatalf("%v: %v %d", x, is, e)
			}
			there[x] = true
		} else {
			if s.Remove(x) != there[x] {
				t.Fatalf("%v", x)
			}
			delete(there, x)
		}
		var want []api.Triple
		for _, x := range l {
			if s.Has(x) != there[x] {
				t.Fatalf("%v: %v", x, there[x])
			}
			if there[x] {
				want = append(want, x)
			}
		}
		checkHolds(t, s, sorted(want))
	}
}

// orders calls f with each order of l.
func orders(l []api.Triple, f func([]api.Triple)) {
	var put func(n int)
	put = func(n int) {
		if n == len(l) {
			f(l)
			return
		}
		for i := n; i < len(l); i++ {
			l[n], l[i] = l[i], l[n]
			put(n + 1)
			l[n], l[i] = l[i], l[n]
		}
	}
	put(0)
}

// P4.3: in whichever order triples come, by Of, by Add, with one that comes too early and goes again: all that is told is the same.
func TestOrderSaysNothing(t *testing.T) {
	a, b := iri("a"), iri("b")
	l := []api.Triple{triple(a, a, a), triple(b, a, a), triple(a, b, b), triple(a, a, literal("a")), triple(a, a, worded("a", "en")), triple(blank("a"), b, b)}
	first := of(t, l)
	want := sorted(l)
	n := 0
	orders(l, func(l []api.Triple) {
		n++
		s, early := store.New(), l[n%len(l)]
		s.Add(early)
		s.Remove(early)
		for _, x := range l {
			s.Add(x)
		}
		for _, s := range []*store.Store{s, of(t, l)} {
			checkHolds(t, s, want)
			for _, p := range somePatterns() {
				m, _ := first.Match(p)
				got, e := s.Match(p)
				if !sameTable(m, got) || e != api.OK {
					t.Fatalf("%v of %v: %v %d; not %v", p, l, got, e, m)
				}
			}
		}
	})
	if n != 720 {
		t.Errorf("%d orders", n)
	}
}

// P4.1, rule 3: what is handed in is neither changed nor kept; what All tells is new memory each time.
func TestMemory(t *testing.T) {
	room := slices.Repeat(numbered(1), 99)
	l := append(room[:0], all()...)
	s := of(t, l)
	if !slices.Equal(l, all()) || !slices.Equal(room[len(l):], slices.Repeat(numbered(1), 99-len(l))) {
		t.Error("what was handed in is changed")
	}
	clear(room)
	checkHolds(t, s, sorted(all()))
	told, again := s.All(), s.All()
	clear(told[:cap(told)])
	checkHolds(t, s, sorted(all()))
	if !slices.Equal(again, sorted(all())) {
		t.Error("two answers share memory")
	}
	told = append(s.All(), numbered(5)...)
	told[0] = api.Triple{}
	for _, x := range append(numbered(9), all()[:9]...) {
		s.Add(x)
		s.Remove(x)
	}
	if !slices.Equal(again, sorted(all())) {
		t.Error("an answer is changed by later calls")
	}
	checkHolds(t, s, sorted(all()[9:]))
}
