package request_test

import (
	"fmt"
	"reflect"
	"strconv"
	"testing"

	"legation/api"
	"legation/request"
)

// roomy tells anything in new memory, with room behind the end of each list in which something stands.
func roomy(v reflect.Value) reflect.Value {
	c := reflect.New(v.Type()).Elem()
	switch v.Kind() {
	case reflect.Struct:
		for i := range v.NumField() {
			c.Field(i).Set(roomy(v.Field(i)))
		}
	case reflect.Slice:
		for i := range v.Len() {
			c = reflect.Append(c, roomy(v.Index(i)))
		}
		c = reflect.Append(c, junk(v.Type().Elem()), junk(v.Type().Elem())).Slice(0, v.Len())
	default:
		c.Set(v)
	}
	return c
}

// junk is something that stands nowhere else.
func junk(t reflect.Type) reflect.Value {
	c := reflect.New(t).Elem()
	switch t.Kind() {
	case reflect.Struct:
		for i := range t.NumField() {
			c.Field(i).Set(junk(t.Field(i).Type))
		}
	case reflect.Slice:
		c = reflect.Append(c, junk(t.Elem()))
	case reflect.String:
		c.SetString("junk")
	case reflect.Int:
		c.SetInt(77)
	}
	return c
}

// spoil writes junk over all memory of lists, behind their ends, too.
func spoil(v reflect.Value) {
	switch v.Kind() {
	case reflect.Struct:
		for i := range v.NumField() {
			spoil(v.Field(i))
		}
	case reflect.Slice:
		v = v.Slice(0, v.Cap())
		for i := range v.Len() {
			spoil(v.Index(i))
			v.Index(i).Set(junk(v.Type().Elem()))
		}
	}
}

// whole tells a text of all that lies in memory, behind the lists' ends, too.
func whole(v reflect.Value) string {
	s := ""
	switch v.Kind() {
	case reflect.Struct:
		for i := range v.NumField() {
			s += whole(v.Field(i)) + ","
		}
		return "{" + s + "}"
	case reflect.Slice:
		n := v.Len()
		v = v.Slice(0, v.Cap())
		for i := range v.Len() {
			s += whole(v.Index(i)) + ";"
		}
		return "[" + strconv.Itoa(n) + ":" + s + "]"
	}
	return fmt.Sprintf("%#v", v)
}

// lists tells the first element's address of each list in which something stands, room counted.
func lists(v reflect.Value) []uintptr {
	var l []uintptr
	switch v.Kind() {
	case reflect.Struct:
		for i := range v.NumField() {
			l = append(l, lists(v.Field(i))...)
		}
	case reflect.Slice:
		v = v.Slice(0, v.Cap())
		if v.Len() > 0 {
			l = append(l, v.Pointer())
		}
		for i := range v.Len() {
			l = append(l, lists(v.Index(i))...)
		}
	}
	return l
}

// Rule 3: Ask writes nothing into a query, nor into the room behind its lists, and hangs on neither behind the call.
func TestQueriesStay(t *testing.T) {
	g := newGrower(11)
	for range 300 {
		q := g.query()
		if g.r.IntN(6) == 0 {
			q.Limit = -2
		}
		id := g.r.IntN(5000)
		want, e := request.Ask(id, q)
		x := roomy(reflect.ValueOf(q)).Interface().(api.Query)
		was := whole(reflect.ValueOf(x))
		s, d := request.Ask(id, x)
		if whole(reflect.ValueOf(x)) != was {
			t.Fatalf("Ask writes: %s", brief(q))
		}
		spoil(reflect.ValueOf(x))
		if s != want || d != e {
			t.Fatalf("%s: %s, %d; not %s, %d", brief(q), brief(s), d, brief(want), e)
		}
	}
}

// Rule 3: what Asked tells is new: written over, and appended to, it changes no other answer; no two of its lists share memory.
func TestAnswersAreNew(t *testing.T) {
	g := newGrower(12)
	for range 600 {
		q := g.query()
		b, e := request.Ask(g.r.IntN(4096), q)
		if e != api.OK {
			continue
		}
		_, one, _ := request.Asked(b)
		_, two, _ := request.Asked(b)
		seen := map[uintptr]bool{}
		for _, at := range append(lists(reflect.ValueOf(one)), lists(reflect.ValueOf(two))...) {
			if seen[at] {
				t.Fatalf("%s: two lists share memory", brief(b))
			}
			seen[at] = true
		}
		spoil(reflect.ValueOf(one))
		if !same(two, q) {
			t.Fatalf("%s: %s; not %s", brief(b), brief(two), brief(q))
		}
		asked(t, b, idOf(t, b), q)
	}
}

// idOf tells the Id of which bytes tell.
func idOf(t *testing.T, b string) int {
	t.Helper()
	r, is := plainGet(b)
	if !is {
		t.Fatalf("%s: none's", brief(b))
	}
	return r.Id
}

// Rule 3: what is told of bytes hangs on nothing that comes behind.
func TestBytesBehindTexts(t *testing.T) {
	g := newGrower(13)
	for range 600 {
		want := g.request()
		b := []byte(plainPut(want))
		r, e := request.Get(string(b))
		text := []byte(want.Text)
		s, d := request.Put(api.Request{Id: want.Id, Text: string(text)})
		for i := range b {
			b[i] = '!'
		}
		for i := range text {
			text[i] = '!'
		}
		if r != want || e != api.OK || s != plainPut(want) || d != api.OK {
			t.Fatalf("%s, %d; %s, %d", brief(r), e, brief(s), d)
		}
	}
}

// Rule 4: calls one behind the other keep nothing of one another.
func TestNothingKept(t *testing.T) {
	q := parsed(t, "SELECT * WHERE { ?x <a> ?y . }")
	other := parsed(t, "ASK { }")
	b, e := request.Ask(1, q)
	if e != api.OK {
		t.Fatal(e)
	}
	for range 3 {
		asks(t, 1, q, b)
		asks(t, 0, other, "id=0&query=ASK%20%7B%20%7D")
		unasked(t, 1, api.Query{}, api.ErrForm)
		unasked(t, 4096, q, api.ErrRange)
		ungot(t, b+"&")
		puts(t, api.Request{Id: 4095, Text: "&"}, "id=4095&query=%26")
		unput(t, api.Request{Id: -1}, api.ErrRange)
	}
}
