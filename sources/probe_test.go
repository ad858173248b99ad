package sources_test

import (
	"fmt"
	"math/rand/v2"
	"strings"
	"testing"

	"legation/api"
	"legation/print"
	"legation/query"
	"legation/server"
	"legation/sources"
	"legation/store"
)

// rightPatterns are patterns with no variable, one, two and three, and with the same one twice and thrice.
func rightPatterns() []api.Triple {
	l := patterns(`a k b|a k "b|?x k b|a ?x b|a k ?x|?x ?y b|?x k ?y|a ?x ?y|?x ?y ?z|?z ?y ?x|?x ?x b|?x k ?x|a ?x ?x|?x ?x ?y|?x ?y ?x|?y ?x ?x|?x ?x ?x`)
	long := strings.Repeat("v", 32)
	return append(l,
		api.Triple{S: variable(long), P: variable(long), O: literal(strings.Repeat("l", api.MaxText))},
		api.Triple{S: iri("a"), P: iri("k"), O: api.Term{Kind: api.Literal, Text: "1", Type: api.TypeInteger}},
		api.Triple{S: iri("a"), P: iri("k"), O: api.Term{Kind: api.Literal, Text: "a", Lang: "en"}},
	)
}

// checkProbe checks that what Probe tells is the query that the chapter says, and no more.
func checkProbe(t *testing.T, p api.Triple) {
	t.Helper()
	q, e := sources.Probe(p)
	want := api.Query{Ask: true, Limit: -1, Code: []api.Op{{Kind: api.OBasic, Triples: []api.Triple{p}}}}
	if got := fmt.Sprintf("%+v", q); got != fmt.Sprintf("%+v", want) || q.Code[0].Triples[0] != p || e != api.OK {
		t.Fatalf("%.200v: %.400s, %d", p, got, e)
	}
	if e := query.Check(q); e != api.OK {
		t.Fatalf("%.200v: the query is not right: %d", p, e)
	}
}

// P20.1: Probe of patterns with each number of variables.
func TestProbe(t *testing.T) {
	for _, p := range rightPatterns() {
		checkProbe(t, p)
	}
}

// P20.1: a pattern that is none is ErrForm, beside a query of which all is zero.
func TestProbeWrong(t *testing.T) {
	zero := fmt.Sprintf("%+v", api.Query{})
	for _, p := range wrongPatterns() {
		if q, e := sources.Probe(p); fmt.Sprintf("%+v", q) != zero || e != api.ErrForm {
			t.Errorf("%.200v: %.400v, %d", p, q, e)
		}
	}
}

// P20.1: the query asks whether a triple matches: an endpoint answers it as its store does, and its text is read as the same query.
func TestProbeAsked(t *testing.T) {
	r := rand.New(rand.NewPCG(20, 1))
	terms := []api.Term{iri("a"), iri("b"), iri("k")}
	one := func() api.Term { return terms[r.IntN(len(terms))] }
	yes, no := 0, 0
	for range 60 {
		s := store.New()
		for range r.IntN(8) {
			s.Add(api.Triple{S: one(), P: one(), O: one()})
		}
		for _, p := range rightPatterns()[:17] {
			q, _ := sources.Probe(p)
			want, _ := s.Ask(p)
			if got := server.Answer(s, 5, q); got.Kind != api.RTruth || got.Truth != want {
				t.Fatalf("%v: %+v; not %t", p, got, want)
			}
			if want {
				yes++
			} else {
				no++
			}
		}
	}
	if yes < 100 || no < 100 {
		t.Errorf("%d match, %d match not", yes, no)
	}
	for _, p := range rightPatterns()[:17] {
		q, _ := sources.Probe(p)
		s, _ := print.Text(q)
		if again, e := query.Parse(s); fmt.Sprintf("%+v", again) != fmt.Sprintf("%+v", q) || e != api.OK {
			t.Errorf("%q: %+v, %d; not %+v", s, again, e, q)
		}
	}
}
