package result_test

import (
	"math/rand/v2"
	"slices"
	"strings"

	"legation/api"
)

// grower grows replies by chance.
type grower struct {
	r *rand.Rand
}

func newGrower(seed uint64) *grower {
	return &grower{r: rand.New(rand.NewPCG(17, seed))}
}

func one[T any](g *grower, l ...T) T { return l[g.r.IntN(len(l))] }

// text grows one of fewer than n bytes that a literal may have.
func (g *grower) text(n int) string {
	b := make([]byte, g.r.IntN(n))
	for i := range b {
		b[i] = one(g, byte(32+g.r.IntN(95)), one(g, []byte("\n\t\"\\\\ ?<")...))
	}
	return string(b)
}

// term grows one that a table may have.
func (g *grower) term() api.Term {
	switch g.r.IntN(8) {
	case 0:
		return iri(one(g, "a", "b", "http://e/a?b=c&d=(e)#f", "!", "?x", "_:a", "'", "~", "rows"))
	case 1:
		return blank(one(g, "a", "b", "B_1", "true", "z2345678901234567890123456789012"))
	case 2:
		return typed(g.text(4), one(g, api.TypeInteger, api.TypeDecimal, api.TypeBoolean, api.TypeString, "t", "@"))
	case 3:
		return tagged(g.text(4), one(g, "a", "en", "abcdefgh"))
	case 4, 5:
		return api.Term{}
	}
	return literal(one(g, g.text(3), g.text(12), "1", "\t", "\n", "\\n", "\\\"", "<a>"))
}

// table grows a right one, of a few rows.
func (g *grower) table() api.Table {
	var t api.Table
	names := []string{"x", "y", "z", "X_1", "a2345678901234567890123456789012", "rows", "true", "error"}
	g.r.Shuffle(len(names), func(i, j int) { names[i], names[j] = names[j], names[i] })
	t.Vars = names[:one(g, 0, 1, 1, 2, 2, 3, 5, 8)]
	for range one(g, 0, 1, 2, 3, 3, 7) {
		var row []api.Term
		for range t.Vars {
			row = append(row, g.term())
		}
		t.Rows = append(t.Rows, row)
	}
	return t
}

// reply grows a right one.
func (g *grower) reply() api.Reply {
	r := api.Reply{Id: one(g, g.r.IntN(10), g.r.IntN(100), g.r.IntN(4096)), Kind: one(g, api.RTable, api.RTable, api.RTable, api.RTable, api.RTruth, api.RError)}
	switch r.Kind {
	case api.RTable:
		r.Table = g.table()
	case api.RTruth:
		r.Truth = one(g, true, false)
	case api.RError:
		r.Err = api.Errno(1 + g.r.IntN(9))
	}
	return r
}

// copied tells r in new memory.
func copied(r api.Reply) api.Reply {
	r.Table.Vars, r.Table.Rows = slices.Clone(r.Table.Vars), slices.Clone(r.Table.Rows)
	for i := range r.Table.Rows {
		r.Table.Rows[i] = slices.Clone(r.Table.Rows[i])
	}
	return r
}

// changed tells r with a little of it changed, right or not, or as it is.
func (g *grower) changed(r api.Reply) api.Reply {
	r = copied(r)
	t := &r.Table
	switch g.r.IntN(12) {
	case 0:
		r.Id = one(g, r.Id+1, r.Id-1, one(g, numbers()...))
	case 1:
		r.Kind = g.r.IntN(6) - 1
	case 2:
		r.Truth = !r.Truth
	case 3:
		r.Err = api.Errno(g.r.IntN(13) - 1)
	case 4:
		t.Vars = append(t.Vars, one(g, "w", "x", "", "é", "?x", strings.Repeat("n", 33)))
	case 5:
		t.Vars = t.Vars[:max(0, len(t.Vars)-1)]
	case 6:
		g.r.Shuffle(len(t.Vars), func(i, j int) { t.Vars[i], t.Vars[j] = t.Vars[j], t.Vars[i] })
	case 7:
		g.r.Shuffle(len(t.Rows), func(i, j int) { t.Rows[i], t.Rows[j] = t.Rows[j], t.Rows[i] })
	case 8:
		var row []api.Term
		for range one(g, len(t.Vars), len(t.Vars), len(t.Vars)+1, 0) {
			row = append(row, g.term())
		}
		t.Rows = append(t.Rows, row)
	case 9:
		t.Rows = t.Rows[:max(0, len(t.Rows)-1)]
	case 10:
		g.changeRow(t.Rows)
	}
	return r
}

// changeRow changes one of those rows, if there is one.
func (g *grower) changeRow(l [][]api.Term) {
	if len(l) == 0 {
		return
	}
	row := &l[g.r.IntN(len(l))]
	if len(*row) == 0 {
		*row = append(*row, g.term())
		return
	}
	x := &(*row)[g.r.IntN(len(*row))]
	switch g.r.IntN(7) {
	case 0:
		*row = append(*row, g.term())
	case 1:
		*row = (*row)[1:]
	case 2:
		x.Kind = g.r.IntN(7) - 1
	case 3:
		x.Text += one(g, "a", " ", "\x00", "é")
	case 4:
		x.Type = one(g, "", "t", "u", " ")
	case 5:
		x.Lang = one(g, "", "en", "EN", "abcdefghi")
	case 6:
		*x = one(g, g.term(), variable("x"))
	}
}

// plainCheck is what Check says of a grown reply that is changed, by the tests' own reading.
func plainCheck(r api.Reply) api.Errno {
	switch {
	case !isId(r.Id) || r.Kind < 1 || r.Kind > 3 || r.Kind == 3 && (r.Err < 1 || r.Err > 9):
		return api.ErrRange
	case r.Kind == 2 && r.Err != 0 || r.Kind > 1 && len(r.Table.Vars)+len(r.Table.Rows) > 0 || r.Kind != 2 && r.Truth || r.Kind == 1 && r.Err != 0:
		return api.ErrForm
	}
	pieces := slices.Collect(slices.Chunk(r.Table.Rows, 1000)) // so that the number of rows alone is no wrong form
	for _, rows := range append(pieces, nil) {
		if !plainIsTable(api.Table{Vars: r.Table.Vars, Rows: rows}) {
			return api.ErrForm
		}
	}
	if len(r.Table.Rows) > 1024 {
		return api.ErrLong
	}
	return api.OK
}

// plainIsTable tells whether t is one that is read as itself.
func plainIsTable(t api.Table) bool {
	r := api.Reply{Kind: api.RTable, Table: t}
	x, is := plainTable(strings.Split(strings.TrimSuffix(strings.TrimPrefix(plainPut(r), "0\nrows\n"), "\n"), "\n"))
	return is && same(api.Reply{Kind: api.RTable, Table: x}, r)
}
