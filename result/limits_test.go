package result_test

import (
	"strconv"
	"strings"
	"testing"

	"legation/api"
	"legation/result"
)

// P17.1, P17.2: 1024 rows may be, one more is too many, whatever there is beside them.
func TestManyRows(t *testing.T) {
	for _, n := range []int{1023, 1024} {
		for _, r := range []api.Reply{tabled(1, "x", column(n, iri("a"))...), tabled(1, "x", column(n, api.Term{})...), tabled(1, "", make([][]api.Term, n)...)} {
			puts(t, r, plainPut(r))
		}
	}
	for _, n := range []int{1025, 1026, 2048, 4095, 4096, 4097, 8191, 8192, 8193, 12289, 1 << 16} {
		for _, r := range []api.Reply{tabled(1, "x", column(n, iri("a"))...), tabled(1, "x", column(n, api.Term{})...), tabled(1, "", make([][]api.Term, n)...)} {
			unput(t, r, api.ErrLong)
			if b := plainPut(r); len(b) <= 1<<16 {
				ungot(t, b, api.ErrForm) // no right reply's
			} else {
				ungot(t, b, api.ErrLong)
			}
		}
	}
}

// P17.1: of how many rows ever, a wrong one is told ahead of their number.
func TestManyRowsAndAWrongOne(t *testing.T) {
	for _, n := range []int{1025, 4096, 4097, 9000} {
		for _, at := range []int{0, 1, 1023, 1024, n / 2, 4095, 4096, n - 1} {
			if at >= n {
				continue
			}
			for _, wrong := range [][]api.Term{nil, row(variable("x")), row(iri("")), row(iri("a"), iri("a"))} {
				l := column(n, iri("a"))
				l[at] = wrong
				unput(t, tabled(1, "x", l...), api.ErrForm)
			}
		}
		unput(t, tabled(1, "x x", make([][]api.Term, n)...), api.ErrForm)
		unput(t, tabled(1, "é", column(n, iri("a"))...), api.ErrForm)
		unput(t, tabled(1, "", column(n, iri("a"))...), api.ErrForm)
	}
}

// names are so many variables.
func names(n int) string {
	var b strings.Builder
	for i := range n {
		b.WriteString("v" + strconv.Itoa(i) + " ")
	}
	return b.String()
}

// P17.1, P17.2: 32 variables may be, one more is too many.
func TestManyVariables(t *testing.T) {
	for _, n := range []int{31, 32} {
		full := make([]api.Term, n)
		for i := range full {
			full[i] = iri("a" + strconv.Itoa(i))
		}
		for _, r := range []api.Reply{tabled(1, names(n)), tabled(1, names(n), full, make([]api.Term, n), full)} {
			puts(t, r, plainPut(r))
		}
	}
	for _, n := range []int{33, 34, 64, 1000} {
		for _, r := range []api.Reply{tabled(1, names(n)), tabled(1, names(n), make([]api.Term, n))} {
			unput(t, r, api.ErrForm)
			ungot(t, plainPut(r), api.ErrForm)
		}
	}
}

// P17.1, P17.2: names of 32 bytes, texts of 4096.
func TestLongTexts(t *testing.T) {
	name, text := strings.Repeat("n", 32), strings.Repeat("t", 4096)
	for _, r := range []api.Reply{tabled(1, name, row(blank(name))), tabled(1, "x", row(iri(text))), tabled(1, "x", row(literal(text))), tabled(1, "x", row(typed(text, text))), tabled(1, "x", row(tagged(text, "abcdefgh"))), tabled(1, "x", row(literal(strings.Repeat("\n", 4096))))} {
		puts(t, r, plainPut(r))
	}
	for _, r := range []api.Reply{tabled(1, name+"n", row(api.Term{})), tabled(1, "x", row(blank(name+"n"))), tabled(1, "x", row(iri(text+"t"))), tabled(1, "x", row(literal(text+"t"))), tabled(1, "x", row(typed("", text+"t"))), tabled(1, "x", row(tagged(text, "abcdefghi"))), tabled(1, "x", row(literal(strings.Repeat("\n", 4097))))} {
		unput(t, r, api.ErrForm)
		ungot(t, plainPut(r), api.ErrForm)
	}
}

// sized tells a table's reply whose bytes are n.
func sized(id, n int, unit string) api.Reply {
	r := tabled(id, "x")
	left := n - len(plainPut(r))
	for left > 2000 {
		text := strings.Repeat(unit, 500)
		r.Table.Rows = append(r.Table.Rows, row(literal(text)))
		left -= len(plainText(literal(text))) + 1
	}
	r.Table.Rows = append(r.Table.Rows, row(literal(strings.Repeat("a", left-3))))
	return r
}

// P17.2: 65536 bytes may be, one more is too many, for Put and for Get.
func TestManyBytes(t *testing.T) {
	for _, unit := range []string{"a", "\n", "\"", "a\\"} {
		for _, n := range []int{65535, 65536} {
			r := sized(4095, n, unit)
			b := plainPut(r)
			if len(b) != n {
				t.Fatalf("%d bytes; not %d", len(b), n)
			}
			puts(t, r, b)
		}
		for _, n := range []int{65537, 65538, 66000, 1 << 18} {
			unputLong(t, sized(4095, n, unit))
		}
	}
	for n := 65537; n < 65540; n++ { // whichever line the bytes are too many in
		r := sized(1, n, "a")
		r.Table.Rows = append(r.Table.Rows, row(iri("a")))
		unputLong(t, r)
		r = sized(1, n-6, "a")
		r.Table.Rows = append(r.Table.Rows, row(iri("aaa")))
		unputLong(t, r)
		r.Table.Rows = r.Table.Rows[:len(r.Table.Rows)-1]
		puts(t, r, plainPut(r))
	}
	for n := 65530; n < 65536; n++ {
		r := sized(1, n, "a")
		empty := append(r.Table.Rows, column(65536-n, api.Term{})...)
		r.Table.Rows = empty
		puts(t, r, plainPut(r))
		r.Table.Rows = append(empty, row(api.Term{}))
		unputLong(t, r)
	}
}

// unputLong holds that r is right, but has too many bytes.
func unputLong(t *testing.T, r api.Reply) {
	t.Helper()
	if e := result.Check(r); e != api.OK {
		t.Fatalf("Check of %s: %d", brief(r), e)
	}
	if s, e := result.Put(r); s != "" || e != api.ErrLong {
		t.Fatalf("Put of %s: %s, %d", brief(r), brief(s), e)
	}
	ungot(t, plainPut(r), api.ErrLong)
}

// P17.2: a great table is refused without its bytes being made: they would be a quarter of a milliard.
func TestGreatTable(t *testing.T) {
	text := strings.Repeat("\"", 4096)
	wide := make([]api.Term, 32)
	for i := range wide {
		wide[i] = literal(text)
	}
	r := tabled(1, names(32))
	for range 1024 {
		r.Table.Rows = append(r.Table.Rows, wide)
	}
	if s, e := result.Put(r); s != "" || e != api.ErrLong {
		t.Errorf("%s, %d", brief(s), e)
	}
}

// P17.2: too many bytes are ErrLong, whatever they are; just as many as may be are not.
func TestManyWrongBytes(t *testing.T) {
	for _, part := range []string{"\n", "\t", " ", "0", "1\n", "\"", "\\", "\x00", "\xff", "1\nrows\n", "?x\t", "<a>\n"} {
		for _, ahead := range []string{"", "1\nrows\n", "1\nrows\n\n", "1\nrows\n?x\n", "1\ntrue\n", "1\nerror 1\n"} {
			b := ahead + strings.Repeat(part, 1<<16+1)
			ungot(t, b[:1<<16], api.ErrForm)
			ungot(t, b[:1<<16+1], api.ErrLong)
			ungot(t, b, api.ErrLong)
		}
	}
	ungot(t, "1\ntrue\n"+strings.Repeat("x", 1<<22), api.ErrLong)
}
