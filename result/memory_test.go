package result_test

import (
	"fmt"
	"reflect"
	"strconv"
	"testing"

	"legation/api"
	"legation/result"
)

// roomy tells anything in new memory, with room behind the end of each list in which something stands.
func roomy(v reflect.Value) reflect.Value {
	c := reflect.New(v.Type()).Elem()
	switch v.Kind() {
	case reflect.Struct:
		for i := range v.NumField() {
			c.Field(i).Set(roomy(v.Field(i)))
		}
	case reflect.Slice:
		for i := range v.Len() {
			c = reflect.Append(c, roomy(v.Index(i)))
		}
		c = reflect.Append(c, junk(v.Type().Elem()), junk(v.Type().Elem())).Slice(0, v.Len())
	default:
		c.Set(v)
	}
	return c
}

// junk is something that stands nowhere else.
func junk(t reflect.Type) reflect.Value {
	c := reflect.New(t).Elem()
	switch t.Kind() {
	case reflect.Struct:
		for i := range t.NumField() {
			c.Field(i).Set(junk(t.Field(i).Type))
		}
	case reflect.Slice:
		c = reflect.Append(c, junk(t.Elem()))
	case reflect.String:
		c.SetString("junk")
	case reflect.Int:
		c.SetInt(77)
	}
	return c
}

// spoil writes junk over all memory of lists, behind their ends, too.
func spoil(v reflect.Value) {
	switch v.Kind() {
	case reflect.Struct:
		for i := range v.NumField() {
			spoil(v.Field(i))
		}
	case reflect.Slice:
		v = v.Slice(0, v.Cap())
		for i := range v.Len() {
			spoil(v.Index(i))
			v.Index(i).Set(junk(v.Type().Elem()))
		}
	}
}

// whole tells a text of all that lies in memory, behind the lists' ends, too.
func whole(v reflect.Value) string {
	s := ""
	switch v.Kind() {
	case reflect.Struct:
		for i := range v.NumField() {
			s += whole(v.Field(i)) + ","
		}
		return "{" + s + "}"
	case reflect.Slice:
		n := v.Len()
		v = v.Slice(0, v.Cap())
		for i := range v.Len() {
			s += whole(v.Index(i)) + ";"
		}
		return "[" + strconv.Itoa(n) + ":" + s + "]"
	}
	return fmt.Sprintf("%#v", v)
}

// lists tells the first element's address of each list in which something stands, room counted.
func lists(v reflect.Value) []uintptr {
	var l []uintptr
	switch v.Kind() {
	case reflect.Struct:
		for i := range v.NumField() {
			l = append(l, lists(v.Field(i))...)
		}
	case reflect.Slice:
		v = v.Slice(0, v.Cap())
		if v.Len() > 0 {
			l = append(l, v.Pointer())
		}
		for i := range v.Len() {
			l = append(l, lists(v.Index(i))...)
		}
	}
	return l
}

// inRoom tells r in new memory, with room behind its lists.
func inRoom(r api.Reply) api.Reply {
	return roomy(reflect.ValueOf(r)).Interface().(api.Reply)
}

// Rule 3: no call writes into a reply, nor into the room behind its lists, or hangs on what lies there, or on either behind the call.
func TestRepliesStay(t *testing.T) {
	g := newGrower(11)
	for range 1000 {
		a := one(g, g.reply(), g.changed(g.reply()))
		b := g.changed(a)
		wantBytes, wantPut := result.Put(a)
		wantCheck, wantSame := result.Check(a), result.Same(a, b)
		x, y := inRoom(a), inRoom(b)
		was := whole(reflect.ValueOf(x)) + whole(reflect.ValueOf(y))
		s, put := result.Put(x)
		check, is := result.Check(x), result.Same(x, y)
		if whole(reflect.ValueOf(x))+whole(reflect.ValueOf(y)) != was {
			t.Fatalf("a call writes: %s, %s", brief(a), brief(b))
		}
		spoil(reflect.ValueOf(x))
		spoil(reflect.ValueOf(y))
		if s != wantBytes || put != wantPut || check != wantCheck || is != wantSame {
			t.Fatalf("%s, %s: %s, %d, %d, %t", brief(a), brief(b), brief(s), put, check, is)
		}
	}
}

// Rule 3: what Get tells is new: written over, and appended to, it changes no other answer; no two of its lists share memory.
func TestAnswersAreNew(t *testing.T) {
	g := newGrower(12)
	for range 1000 {
		r := g.reply()
		b := plainPut(r)
		one, _ := result.Get(b)
		two, _ := result.Get(b)
		seen := map[uintptr]bool{}
		for _, at := range append(lists(reflect.ValueOf(one)), lists(reflect.ValueOf(two))...) {
			if seen[at] {
				t.Fatalf("%s: two lists share memory", brief(b))
			}
			seen[at] = true
		}
		for i := range one.Table.Rows {
			one.Table.Rows[i] = append(one.Table.Rows[i], iri("junk"))
		}
		one.Table.Rows = append(one.Table.Rows, row(iri("junk")))
		one.Table.Vars = append(one.Table.Vars, "junk")
		spoil(reflect.ValueOf(one))
		if !same(two, r) {
			t.Fatalf("%s: %s; not %s", brief(b), brief(two), brief(r))
		}
		puts(t, r, b)
	}
}

// Rule 3: what is told of bytes hangs on nothing that comes behind.
func TestBytesBehindTexts(t *testing.T) {
	g := newGrower(13)
	for range 1000 {
		want := g.reply()
		b := []byte(plainPut(want))
		r, e := result.Get(string(b))
		for i := range b {
			b[i] = '!'
		}
		if !same(r, want) || e != api.OK {
			t.Fatalf("%s, %d; not %s", brief(r), e, brief(want))
		}
	}
}

// Rule 3: rows that share memory are put and compared as any others.
func TestSharedRows(t *testing.T) {
	one := row(iri("a"), literal("b"))
	r := tabled(1, "x y", one, one, one[:2:2])
	puts(t, r, "1\nrows\n?x\t?y\n<a>\t\"b\"\n<a>\t\"b\"\n<a>\t\"b\"\n")
	alike(t, r, r)
	unput(t, tabled(1, "x y", one, one[:1]), api.ErrForm)
	puts(t, tabled(1, "x", one[:1], one[:1]), "1\nrows\n?x\n<a>\n<a>\n")
}

// Rule 4: calls one behind the other keep nothing of one another.
func TestNothingKept(t *testing.T) {
	for range 3 {
		puts(t, tabled(1, "x", row(iri("a"))), "1\nrows\n?x\n<a>\n")
		puts(t, truth(0, false), "0\nfalse\n")
		unput(t, failed(1, 0), api.ErrRange)
		unput(t, tabled(1, "x x"), api.ErrForm)
		unput(t, tabled(1, "", make([][]api.Term, 1025)...), api.ErrLong)
		ungot(t, "1\nrows\n?x\n<a>", api.ErrForm)
		puts(t, failed(4095, 9), "4095\nerror 9\n")
		puts(t, tabled(1, "y"), "1\nrows\n?y\n")
	}
}
