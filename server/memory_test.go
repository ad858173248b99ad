package server_test

import (
	"fmt"
	"reflect"
	"slices"
	"strconv"
	"testing"

	"legation/api"
	"legation/server"
	"legation/store"
)

// roomy tells anything in new memory, with room behind the end of each list in which something stands.
func roomy(v reflect.Value) reflect.Value {
	c := reflect.New(v.Type()).Elem()
	switch v.Kind() {
	case reflect.Struct:
		for i := range v.NumField() {
			c.Field(i).Set(roomy(v.Field(i)))
		}
	case reflect.Slice:
		for i := range v.Len() {
			c = reflect.Append(c, roomy(v.Index(i)))
		}
		c = reflect.Append(c, junk(v.Type().Elem()), junk(v.Type().Elem())).Slice(0, v.Len())
	default:
		c.Set(v)
	}
	return c
}

// junk is something that stands nowhere else.
func junk(t reflect.Type) reflect.Value {
	c := reflect.New(t).Elem()
	switch t.Kind() {
	case reflect.Struct:
		for i := range t.NumField() {
			c.Field(i).Set(junk(t.Field(i).Type))
		}
	case reflect.Slice:
		c = reflect.Append(c, junk(t.Elem()))
	case reflect.String:
		c.SetString("junk")
	case reflect.Int:
		c.SetInt(77)
	}
	return c
}

// spoil writes junk over all memory of lists, behind their ends, too.
func spoil(v reflect.Value) {
	switch v.Kind() {
	case reflect.Struct:
		for i := range v.NumField() {
			spoil(v.Field(i))
		}
	case reflect.Slice:
		v = v.Slice(0, v.Cap())
		for i := range v.Len() {
			spoil(v.Index(i))
			v.Index(i).Set(junk(v.Type().Elem()))
		}
	}
}

// whole tells a text of all that lies in memory, behind the lists' ends, too; of a store what triples it has.
func whole(v reflect.Value) string {
	s := ""
	switch v.Kind() {
	case reflect.Struct:
		for i := range v.NumField() {
			s += whole(v.Field(i)) + ","
		}
		return "{" + s + "}"
	case reflect.Slice:
		n := v.Len()
		v = v.Slice(0, v.Cap())
		for i := range v.Len() {
			s += whole(v.Index(i)) + ";"
		}
		return "[" + strconv.Itoa(n) + ":" + s + "]"
	case reflect.Pointer:
		return fmt.Sprint(v.Interface().(*store.Store).All())
	}
	return fmt.Sprintf("%#v", v)
}

func anew[T any](x T) T { return roomy(reflect.ValueOf(x)).Interface().(T) }

func clonedReply(r api.Reply) api.Reply {
	vars := slices.Clone(r.Table.Vars)
	var rows [][]api.Term
	for _, row := range r.Table.Rows {
		rows = append(rows, slices.Clone(row))
	}
	r.Table = api.Table{Vars: vars, Rows: rows}
	return r
}

// apart writes another number over each row's memory, the room behind its end, too, and appends it to each row; it tells whether each number stays where it is.
func apart(a api.Table) bool {
	for i, row := range a.Rows {
		row = row[:cap(row)]
		for j := range row {
			row[j] = integer(strconv.Itoa(i))
		}
	}
	for _, row := range a.Rows {
		_ = append(row, iri("appended"), iri("appended"))
	}
	for i, row := range a.Rows {
		for _, x := range row {
			if x != integer(strconv.Itoa(i)) {
				return false
			}
		}
	}
	return true
}

// someHanded calls f with grown stores and queries, and with some whose tables might be handed on as they are.
func someHanded(t *testing.T, seed uint64, f func(s *store.Store, q api.Query)) {
	t.Helper()
	g := newGrower(seed)
	for range 800 {
		q := g.query(t, 6, true)
		if g.r.IntN(5) == 0 {
			q = g.spoilt(q)
		}
		f(storeOf(t, g.triples(25)), anew(q))
	}
	for _, text := range []string{"SELECT * WHERE { VALUES ( ?x ?y ) { ( 1 UNDEF ) ( <a> 2 ) ( <b> \"c\" ) } }", "SELECT ?x ?y WHERE { VALUES ( ?y ?x ) { ( 1 UNDEF ) ( <a> 2 ) } } LIMIT 1", "SELECT * WHERE { VALUES ( ) { ( ) ( ) } }", "SELECT * WHERE { ?x <k> ?y . }", "SELECT DISTINCT * WHERE { VALUES ( ?x ) { ( 1 ) ( 1 ) } FILTER ( TRUE ) }", "SELECT ?x WHERE { VALUES ( ?x ) { ( 1 ) ( 2 ) } } GROUP BY ?x ORDER BY DESC ( ?x )", "ASK { VALUES ( ?x ) { ( 1 ) } }", "ASK { SERVICE <e> { VALUES ( ?x ) { ( 1 ) } } }"} {
		f(someStore(t), anew(parsed(t, text)))
	}
}

// Rule 3: no call writes into what it is handed, nor into a store; what it tells shares no memory with these, and no two lists of an answer share any.
func TestMemory(t *testing.T) {
	someHanded(t, 11, func(s *store.Store, q api.Query) {
		was := whole(reflect.ValueOf(s)) + whole(reflect.ValueOf(q))
		got := server.Answer(s, 7, q)
		if whole(reflect.ValueOf(s))+whole(reflect.ValueOf(q)) != was {
			t.Fatalf("writes: %s", brief(q))
		}
		first := clonedReply(got)
		if !apart(got.Table) {
			t.Fatalf("two rows share memory: %s", brief(first))
		}
		_, _ = append(got.Table.Vars, "appended"), append(got.Table.Rows, []api.Term{iri("appended")})
		spoil(reflect.ValueOf(got))
		if whole(reflect.ValueOf(s))+whole(reflect.ValueOf(q)) != was {
			t.Fatalf("shares memory: %s", brief(q))
		}
		replied(t, q, server.Answer(s, 7, q), first)
	})
}

// Rule 3: writing over what was handed in, and changing the store, changes no answer.
func TestKept(t *testing.T) {
	someHanded(t, 12, func(s *store.Store, q api.Query) {
		got := server.Answer(s, 7, q)
		was := clonedReply(got)
		for _, x := range s.All() {
			s.Remove(x)
		}
		s.Add(api.Triple{S: iri("new"), P: iri("new"), O: iri("new")})
		spoil(reflect.ValueOf(q))
		replied(t, "behind changes", got, was)
	})
}

// P18.1: to serve changes nothing: a store has the same triples ahead and behind.
func TestStoresStay(t *testing.T) {
	g := newGrower(13)
	for range 800 {
		s := storeOf(t, g.triples(25))
		was := fmt.Sprint(s.All())
		b := plainRequest(g.r.IntN(4096), g.text(t))
		if g.r.IntN(5) == 0 {
			b = g.changed(b)
		}
		server.Serve(s, b)
		if fmt.Sprint(s.All()) != was {
			t.Fatalf("%s: %s; not %s", brief(b), fmt.Sprint(s.All()), was)
		}
	}
}

// Rule 4: calls one behind the other keep nothing of one another; what the store has when it is asked counts.
func TestNothingKept(t *testing.T) {
	s, other := stored(t, "a k b"), stored(t, "z k z")
	b := plainRequest(1, "SELECT ?x WHERE { ?x <k> ?y . }")
	q := parsed(t, "SELECT ?x WHERE { ?x <k> ?y . }")
	for range 3 {
		serves(t, s, "SELECT ?x WHERE { ?x <k> ?y . }", answer(t, 1, "x|a"))
		serves(t, other, "SELECT ?x WHERE { ?x <k> ?y . }", answer(t, 1, "x|z"))
		serves(t, s, "SELECT ?z WHERE { ?x <k> ?y . }", answer(t, 1, "error 6"))
		unserved(t, s, b+"&")
		if r := server.Answer(s, -1, q); !same(r, api.Reply{}) {
			t.Fatalf("%s", brief(r))
		}
		s.Add(api.Triple{S: iri("c"), P: iri("k"), O: iri("c")})
		serves(t, s, "SELECT ?x WHERE { ?x <k> ?y . }", answer(t, 1, "x|a|c"))
		s.Remove(api.Triple{S: iri("c"), P: iri("k"), O: iri("c")})
	}
}
