package table_test

import (
	"math/rand/v2"
	"slices"
	"strconv"
	"testing"

	"legation/api"
	"legation/table"
)

// handed is what a call is handed, with room behind each list's end.
type handed struct {
	a, b api.Table
	f    []api.Part
}

// roomy tells l in new memory, with something in the room behind its end.
func roomy[T any](l []T, room ...T) []T {
	n := len(l)
	return slices.Concat(l, room)[:n]
}

func roomyTable(a api.Table) api.Table {
	var rows [][]api.Term
	for _, row := range a.Rows {
		rows = append(rows, roomy(row, iri("room"), iri("room")))
	}
	room := []api.Term{iri("room")}
	return api.Table{Vars: roomy(a.Vars, "room", "room"), Rows: roomy(rows, room, room)}
}

// whole tells all that lies in a table's memory, what is behind its lists' ends, too, in new memory.
func whole(a api.Table) api.Table {
	b := api.Table{Vars: slices.Clone(a.Vars[:cap(a.Vars)])}
	for _, row := range a.Rows[:cap(a.Rows)] {
		b.Rows = append(b.Rows, slices.Clone(row[:cap(row)]))
	}
	return b
}

// cloned tells a table in new memory.
func cloned(a api.Table) api.Table {
	b := api.Table{Vars: slices.Clone(a.Vars)}
	for _, row := range a.Rows {
		b.Rows = append(b.Rows, slices.Clone(row))
	}
	return b
}

func (h handed) copied() handed {
	return handed{whole(h.a), whole(h.b), slices.Clone(h.f[:cap(h.f)])}
}

// spoil writes over all of a table's memory.
func spoil(a api.Table) {
	for i := range a.Vars[:cap(a.Vars)] {
		a.Vars[:cap(a.Vars)][i] = "spoilt"
	}
	for i, row := range a.Rows[:cap(a.Rows)] {
		for j := range row[:cap(row)] {
			row[:cap(row)][j] = iri("spoilt")
		}
		a.Rows[:cap(a.Rows)][i] = nil
	}
}

// apart writes another number over each row's memory, the room behind its end, too, and tells whether each one stays there.
func apart(a api.Table) bool {
	for i, row := range a.Rows {
		row = row[:cap(row)]
		for j := range row {
			row[j] = integer(strconv.Itoa(i))
		}
	}
	for i, row := range a.Rows {
		for _, x := range row {
			if x != integer(strconv.Itoa(i)) {
				return false
			}
		}
	}
	return true
}

// calls are all calls that tell tables.
func calls() map[string]func(h handed) (api.Table, api.Errno) {
	return map[string]func(h handed) (api.Table, api.Errno){
		"Join":           func(h handed) (api.Table, api.Errno) { return table.Join(h.a, h.b) },
		"Join itself":    func(h handed) (api.Table, api.Errno) { return table.Join(h.a, h.a) },
		"Join Unit":      func(h handed) (api.Table, api.Errno) { return table.Join(h.a, table.Unit()) },
		"Union":          func(h handed) (api.Table, api.Errno) { return table.Union(h.a, h.b) },
		"Union itself":   func(h handed) (api.Table, api.Errno) { return table.Union(h.a, h.a) },
		"Union nothing":  func(h handed) (api.Table, api.Errno) { return table.Union(h.a, api.Table{}) },
		"Minus":          func(h handed) (api.Table, api.Errno) { return table.Minus(h.a, h.b) },
		"Minus nothing":  func(h handed) (api.Table, api.Errno) { return table.Minus(h.a, api.Table{}) },
		"Left":           func(h handed) (api.Table, api.Errno) { return table.Left(h.a, h.b, nil) },
		"Left by f":      func(h handed) (api.Table, api.Errno) { return table.Left(h.a, h.b, h.f) },
		"Left nothing":   func(h handed) (api.Table, api.Errno) { return table.Left(h.a, api.Table{}, h.f) },
		"Filter":         func(h handed) (api.Table, api.Errno) { return table.Filter(h.a, h.f) },
		"Extend":         func(h handed) (api.Table, api.Errno) { return table.Extend(h.a, "new", h.f) },
		"Extend refused": func(h handed) (api.Table, api.Errno) { return table.Extend(h.a, "x", h.f) },
		"Unit":           func(h handed) (api.Table, api.Errno) { return table.Unit(), api.OK },
	}
}

// P11.5, rule 3: no call writes into what it is handed; what it tells shares no memory with that, and no two lists of an answer share any.
func TestMemory(t *testing.T) {
	r := rand.New(rand.NewPCG(11, 7))
	formulas, terms := append(someFormulas(t), parts(t, "TRUE")), someTerms()
	for range 1500 {
		h := handed{roomyTable(grown(r, []string{"x", "y", "z"}, 5, terms)), roomyTable(grown(r, []string{"x", "y", "w"}, 5, terms)), roomy(formulas[r.IntN(len(formulas))], api.Part{Kind: -7})}
		was := h.copied()
		untouched := func(what string) {
			t.Helper()
			if now := h.copied(); !same(now.a, was.a) || !same(now.b, was.b) || !slices.Equal(now.f, was.f) {
				t.Fatalf("%s: %s, %s", what, written(was.a), written(was.b))
			}
		}
		for what, call := range calls() {
			got, e := call(h)
			untouched(what)
			first := cloned(got)
			if !apart(got) {
				t.Fatalf("%s: two rows share memory: %s", what, written(first))
			}
			spoil(got)
			untouched(what + ", spoilt")
			if again, d := call(h); e != d || !same(again, first) {
				t.Fatalf("%s: %s, %d, then %s, %d", what, written(first), e, written(again), d)
			}
		}
	}
}

// P11.5: writing over what was handed in changes no answer.
func TestKept(t *testing.T) {
	r := rand.New(rand.NewPCG(11, 8))
	f := parts(t, "?x != 2 || ! BOUND(?x)")
	for range 1500 {
		a, b := grown(r, []string{"x", "y", "z"}, 5, someTerms()), grown(r, []string{"x", "y", "w"}, 5, someTerms())
		for what, call := range calls() {
			h := handed{roomyTable(a), roomyTable(b), roomy(f, api.Part{Kind: -7})}
			got, e := call(h)
			was := cloned(got)
			spoil(h.a)
			spoil(h.b)
			clear(h.f[:cap(h.f)])
			if !same(got, was) {
				t.Fatalf("%s, %d: %s; not %s", what, e, written(got), written(was))
			}
		}
	}
}
