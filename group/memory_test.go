package group_test

import (
	"math/rand/v2"
	"slices"
	"strconv"
	"testing"

	"legation/api"
	"legation/group"
)

// handed is what a call is handed, with room behind each list's end.
type handed struct {
	a  api.Table
	by []string
	l  []api.Agg
}

// roomy tells l in new memory, with something in the room behind its end.
func roomy[T any](l []T, room ...T) []T {
	n := len(l)
	return slices.Concat(l, room)[:n]
}

func someHanded(r *rand.Rand, a api.Table, by []string) handed {
	b := api.Table{Vars: roomy(a.Vars, "room", "room")}
	for _, row := range a.Rows {
		b.Rows = append(b.Rows, roomy(row, iri("room"), iri("room")))
	}
	b.Rows = roomy(b.Rows, []api.Term{iri("room")}, nil)
	return handed{b, roomy(by, "room", "room"), roomy(someAggs(r, a.Vars), api.Agg{Name: "room"}, api.Agg{})}
}

// copied tells all that lies in the memory of what is handed in, what is behind the lists' ends, too.
func (h handed) copied() handed {
	c := handed{api.Table{Vars: slices.Clone(h.a.Vars[:cap(h.a.Vars)])}, slices.Clone(h.by[:cap(h.by)]), slices.Clone(h.l[:cap(h.l)])}
	for _, row := range h.a.Rows[:cap(h.a.Rows)] {
		c.a.Rows = append(c.a.Rows, slices.Clone(row[:cap(row)]))
	}
	return c
}

func (h handed) equals(g handed) bool {
	return same(h.a, g.a) && slices.Equal(h.by, g.by) && slices.Equal(h.l, g.l)
}

// cloned tells a table in new memory.
func cloned(a api.Table) api.Table {
	b := api.Table{Vars: slices.Clone(a.Vars)}
	for _, row := range a.Rows {
		b.Rows = append(b.Rows, slices.Clone(row))
	}
	return b
}

// spoil writes over all of a table's memory.
func spoil(a api.Table) {
	for i := range a.Vars[:cap(a.Vars)] {
		a.Vars[:cap(a.Vars)][i] = "spoilt"
	}
	for i, row := range a.Rows[:cap(a.Rows)] {
		for j := range row[:cap(row)] {
			row[:cap(row)][j] = iri("spoilt")
		}
		a.Rows[:cap(a.Rows)][i] = nil
	}
}

// apart writes another number over each row's memory, the room behind its end, too, and appends it to each row; it tells whether each number stays where it is.
func apart(a api.Table) bool {
	for i, row := range a.Rows {
		x := integer(strconv.Itoa(i))
		row = row[:cap(row)]
		for j := range row {
			row[j] = x
		}
	}
	for _, row := range a.Rows {
		_ = append(row, iri("appended"), iri("appended"))
	}
	for i, row := range a.Rows {
		for _, x := range row {
			if x != integer(strconv.Itoa(i)) {
				return false
			}
		}
	}
	return true
}

// calls are all calls, each telling a table.
func calls() map[string]func(h handed) (api.Table, api.Errno) {
	return map[string]func(h handed) (api.Table, api.Errno){
		"Group":                 func(h handed) (api.Table, api.Errno) { return group.Group(h.a, h.by, h.l) },
		"Group by all":          func(h handed) (api.Table, api.Errno) { return group.Group(h.a, h.a.Vars, h.l) },
		"Group by none":         func(h handed) (api.Table, api.Errno) { return group.Group(h.a, h.by[:0], h.l) },
		"Group of no aggregate": func(h handed) (api.Table, api.Errno) { return group.Group(h.a, h.by, h.l[:0]) },
		"Group of nothing":      func(h handed) (api.Table, api.Errno) { return group.Group(h.a, h.by[:0], h.l[:0]) },
		"Group refused": func(h handed) (api.Table, api.Errno) {
			return group.Group(h.a, h.by, append(h.l[:len(h.l):len(h.l)], api.Agg{}))
		},
		"Check": func(h handed) (api.Table, api.Errno) { return api.Table{}, group.Check(h.a, h.by, h.l) },
		"Of": func(h handed) (api.Table, api.Errno) {
			g := api.Table{Rows: [][]api.Term{nil}}
			for _, agg := range h.l {
				x, e := group.Of(h.a, agg)
				if e != api.OK {
					return api.Table{}, e
				}
				g.Rows[0] = append(g.Rows[0], x)
			}
			return g, api.OK
		},
	}
}

// Rule 3: no call writes into what it is handed; what it tells shares no memory with that, and no two lists of an answer share any.
func TestMemory(t *testing.T) {
	someTables(6, func(r *rand.Rand, a api.Table, by []string) {
		h := someHanded(r, a, by)
		was := h.copied()
		for what, call := range calls() {
			got, e := call(h)
			if !h.copied().equals(was) {
				t.Fatalf("%s writes: %s", what, written(a))
			}
			first := cloned(got)
			if !apart(got) {
				t.Fatalf("%s: two rows share memory: %s", what, written(first))
			}
			_, _ = append(got.Vars, "appended"), append(got.Rows, []api.Term{iri("appended")})
			spoil(got)
			if !h.copied().equals(was) {
				t.Fatalf("%s shares memory: %s", what, written(a))
			}
			if again, d := call(h); e != d || !same(again, first) {
				t.Fatalf("%s: %s, %d, then %s, %d", what, written(first), e, written(again), d)
			}
		}
	})
}

// Rule 3: writing over what was handed in changes no answer.
func TestKept(t *testing.T) {
	someTables(7, func(r *rand.Rand, a api.Table, by []string) {
		for what, call := range calls() {
			h := someHanded(r, a, by)
			got, e := call(h)
			was := cloned(got)
			spoil(h.a)
			for i := range h.by[:cap(h.by)] {
				h.by[:cap(h.by)][i] = "spoilt"
			}
			clear(h.l[:cap(h.l)])
			if !same(got, was) {
				t.Fatalf("%s, %d: %s; not %s", what, e, written(got), written(was))
			}
		}
	})
}
