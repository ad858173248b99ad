package engine_test

import (
	"fmt"
	"math/rand/v2"
	"reflect"
	"slices"
	"strconv"
	"testing"

	"legation/api"
	"legation/engine"
	"legation/store"
)

// handed is what the calls are handed, with room behind each list's end.
type handed struct {
	w engine.World
	q api.Query
	l []api.Triple
}

// calls are all calls, each telling a table.
func calls() map[string]func(h handed) (api.Table, api.Errno) {
	return map[string]func(h handed) (api.Table, api.Errno){
		"Basic":        func(h handed) (api.Table, api.Errno) { return engine.Basic(h.w.Base, h.l) },
		"Code":         func(h handed) (api.Table, api.Errno) { return engine.Code(h.w, h.q.Code) },
		"Run":          func(h handed) (api.Table, api.Errno) { return engine.Run(h.w, h.q) },
		"Code refused": func(h handed) (api.Table, api.Errno) { return engine.Code(h.w, h.q.Code[1:]) },
		"Run refused": func(h handed) (api.Table, api.Errno) {
			h.q.Limit = -2
			return engine.Run(h.w, h.q)
		},
	}
}

// roomy tells anything in new memory, with room behind the end of each list in which something stands.
func roomy(v reflect.Value) reflect.Value {
	c := reflect.New(v.Type()).Elem()
	switch v.Kind() {
	case reflect.Struct:
		for i := range v.NumField() {
			c.Field(i).Set(roomy(v.Field(i)))
		}
	case reflect.Slice:
		for i := range v.Len() {
			c = reflect.Append(c, roomy(v.Index(i)))
		}
		c = reflect.Append(c, junk(v.Type().Elem()), junk(v.Type().Elem())).Slice(0, v.Len())
	default:
		c.Set(v)
	}
	return c
}

// junk is something that stands nowhere else.
func junk(t reflect.Type) reflect.Value {
	c := reflect.New(t).Elem()
	switch t.Kind() {
	case reflect.Struct:
		for i := range t.NumField() {
			c.Field(i).Set(junk(t.Field(i).Type))
		}
	case reflect.Slice:
		c = reflect.Append(c, junk(t.Elem()))
	case reflect.String:
		c.SetString("junk")
	case reflect.Int:
		c.SetInt(77)
	}
	return c
}

// spoil writes junk over all memory of lists, behind their ends, too.
func spoil(v reflect.Value) {
	switch v.Kind() {
	case reflect.Struct:
		for i := range v.NumField() {
			spoil(v.Field(i))
		}
	case reflect.Slice:
		v = v.Slice(0, v.Cap())
		for i := range v.Len() {
			spoil(v.Index(i))
			v.Index(i).Set(junk(v.Type().Elem()))
		}
	}
}

// whole tells a text of all that lies in memory, behind the lists' ends, too; of a store what triples it has.
func whole(v reflect.Value) string {
	s := ""
	switch v.Kind() {
	case reflect.Struct:
		for i := range v.NumField() {
			s += whole(v.Field(i)) + ","
		}
		return "{" + s + "}"
	case reflect.Slice:
		n := v.Len()
		v = v.Slice(0, v.Cap())
		for i := range v.Len() {
			s += whole(v.Index(i)) + ";"
		}
		return "[" + strconv.Itoa(n) + ":" + s + "]"
	case reflect.Pointer:
		return fmt.Sprint(v.Interface().(*store.Store).All())
	}
	return fmt.Sprintf("%#v", v)
}

func (h handed) whole() string {
	return whole(reflect.ValueOf(h.w)) + whole(reflect.ValueOf(h.q)) + whole(reflect.ValueOf(h.l))
}

func anew[T any](x T) T { return roomy(reflect.ValueOf(x)).Interface().(T) }

func cloned(a api.Table) api.Table {
	b := api.Table{Vars: slices.Clone(a.Vars)}
	for _, row := range a.Rows {
		b.Rows = append(b.Rows, slices.Clone(row))
	}
	return b
}

// apart writes another number over each row's memory, the room behind its end, too, and appends it to each row; it tells whether each number stays where it is.
func apart(a api.Table) bool {
	for i, row := range a.Rows {
		row = row[:cap(row)]
		for j := range row {
			row[j] = integer(strconv.Itoa(i))
		}
	}
	for _, row := range a.Rows {
		_ = append(row, iri("appended"), iri("appended"))
	}
	for i, row := range a.Rows {
		for _, x := range row {
			if x != integer(strconv.Itoa(i)) {
				return false
			}
		}
	}
	return true
}

// someHanded calls f with grown things, and with some whose answers might be handed on as they are.
func someHanded(t *testing.T, n uint64, f func(h handed)) {
	t.Helper()
	r := rand.New(rand.NewPCG(14, n))
	for range 400 {
		f(handed{anew(grownWorld(t, r)), anew(grownQuery(t, r, 6)), anew(grownPatterns(r, 3))})
	}
	z := given(t, "x y|1 -|2 3|a b")
	for _, c := range [][]api.Op{{z}, {z, service("e0")}, {z, silent("e9")}, {z, basic(t, ""), join}, {z, z, join}, {z, given(t, "x y"), union}, {z, given(t, ""), minus}, {z, given(t, "w"), left}, {z, by(t, api.OFilter, "TRUE")}, {z, extend(t, "z", "1")}, {basic(t, "?x k ?y")}, {basic(t, "")}} {
		x, _ := planted(c)
		for _, l := range []string{"", "?x k ?y", "?x k ?y|?x k ?y", "a k b"} {
			f(handed{anew(someWorld(t)), anew(api.Query{Vars: x.names(), Limit: -1, Code: c}), anew(patterns(t, l))})
		}
	}
}

// Rule 3: no call writes into what it is handed, nor into a store; what it tells shares no memory with these, and no two lists of an answer share any.
func TestMemory(t *testing.T) {
	someHanded(t, 11, func(h handed) {
		was := h.whole()
		for what, call := range calls() {
			got, e := call(h)
			if h.whole() != was {
				t.Fatalf("%s writes: %s", what, brief(h))
			}
			first := cloned(got)
			if !apart(got) {
				t.Fatalf("%s: two rows share memory: %s", what, written(first))
			}
			_, _ = append(got.Vars, "appended"), append(got.Rows, []api.Term{iri("appended")})
			spoil(reflect.ValueOf(got))
			if h.whole() != was {
				t.Fatalf("%s shares memory: %s", what, brief(h))
			}
			if again, d := call(h); e != d || !same(again, first) {
				t.Fatalf("%s: %s, %d, then %s, %d", what, written(first), e, written(again), d)
			}
		}
	})
}

// again tells a store of the same triples.
func again(t *testing.T, s *store.Store) *store.Store {
	t.Helper()
	if s == nil {
		return nil
	}
	return storeOf(t, s.All())
}

// Rule 3: writing over what was handed in, and changing the stores, changes no answer.
func TestKept(t *testing.T) {
	someHanded(t, 12, func(h handed) {
		for what, call := range calls() {
			h := handed{anew(h.w), anew(h.q), anew(h.l)}
			h.w.Base = again(t, h.w.Base)
			for i, s := range h.w.Stores {
				h.w.Stores[i] = again(t, s)
			}
			got, e := call(h)
			was := cloned(got)
			for _, s := range append(h.w.Stores, h.w.Base) {
				for _, x := range s.All() {
					s.Remove(x)
				}
				if s != nil {
					s.Add(api.Triple{S: iri("new"), P: iri("new"), O: iri("new")})
				}
			}
			for _, v := range []any{h.w, h.q, h.l} {
				spoil(reflect.ValueOf(v))
			}
			if !same(got, was) {
				t.Fatalf("%s, %d: %s; not %s", what, e, written(got), written(was))
			}
		}
	})
}

// Rule 3: calls one behind the other keep nothing of one another, whatever is between them.
func TestNothingKept(t *testing.T) {
	w, other := someWorld(t), worldOf(t, "z k z")
	q := parsed(t, "SELECT * WHERE { ?x <k> ?y . SERVICE SILENT <e0> { ?y <k> ?z . } }")
	for range 3 {
		got, e := engine.Run(w, q)
		check(t, q, got, e, of(t, "x y z|b c d"))
		got, e = engine.Run(other, q)
		check(t, q, got, e, of(t, "x y z|z z -"))
		if _, e = engine.Run(w, api.Query{}); e != api.ErrForm {
			t.Errorf("%d", e)
		}
		w.Base.Add(api.Triple{S: iri("b"), P: iri("k"), O: iri("c")}) // it is there
		other.Base.Remove(api.Triple{S: iri("z"), P: iri("k"), O: iri("y")})
	}
	w.Base.Add(api.Triple{S: iri("q"), P: iri("k"), O: iri("c")})
	got, e := engine.Run(w, q)
	check(t, q, got, e, of(t, "x y z|b c d|q c d"))
}
