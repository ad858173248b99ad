package result_test

import (
	"slices"
	"strings"
	"testing"

	"legation/api"
	"legation/result"
)

// gets holds that bytes are read as by the tests' own reading; 1 is told, if they are a reply's, else 0.
func gets(t *testing.T, b string) int {
	t.Helper()
	r, is := plainGet(b)
	if is {
		puts(t, r, b)
		return 1
	}
	ungot(t, b, api.ErrForm)
	return 0
}

// P17.3: Get of Put is the reply, Put of Get the bytes; both are as by the tests' own reading.
func TestThereAndBack(t *testing.T) {
	g := newGrower(3)
	for range 8000 {
		r := g.reply()
		b := plainPut(r)
		puts(t, r, b)
		gets(t, b)
	}
}

// P17.1, P17.3: replies nearly right are refused or put as the chapter says.
func TestChangedReplies(t *testing.T) {
	g := newGrower(4)
	count := map[api.Errno]int{}
	for range 20000 {
		r := g.changed(g.reply())
		if g.r.IntN(3) == 0 {
			r = g.changed(r)
		}
		e := plainCheck(r)
		count[e]++
		if e == api.OK {
			puts(t, r, plainPut(r))
		} else {
			unput(t, r, e)
		}
	}
	if count[api.OK] < 2000 || count[api.ErrRange] < 1000 || count[api.ErrForm] < 2000 {
		t.Errorf("%v", count)
	}
}

// P17.2, P17.3: bytes nearly right are read as the chapter writes them, or as none's.
func TestNearlyRight(t *testing.T) {
	g := newGrower(5)
	right := 0
	for range 30000 {
		b := []byte(plainPut(g.reply()))
		for range 1 + g.r.IntN(2) {
			i := g.r.IntN(len(b))
			b = slices.Replace(b, i, i+g.r.IntN(2), one(g, telling[g.r.IntN(len(telling))], byte('0'+g.r.IntN(10)), byte(g.r.IntN(256)), b[g.r.IntN(len(b))]))
		}
		right += gets(t, string(b))
	}
	if right < 3000 {
		t.Errorf("%d were right", right)
	}
}

// P17.2, P17.3: lines and cells put elsewhere, left out, doubled.
func TestPiecesMoved(t *testing.T) {
	g := newGrower(6)
	right := 0
	for range 20000 {
		sep := one(g, "\n", "\t")
		l := strings.Split(plainPut(g.reply()), sep)
		i, j := g.r.IntN(len(l)), g.r.IntN(len(l))
		switch g.r.IntN(4) {
		case 0:
			l[i], l[j] = l[j], l[i]
		case 1:
			l = slices.Delete(l, i, i+1)
		case 2:
			l = slices.Insert(l, i, l[j])
		case 3:
			l[i] = l[j]
		}
		right += gets(t, strings.Join(l, sep))
	}
	if right < 5000 {
		t.Errorf("%d were right", right)
	}
}

// P17.2, P17.3: each text of few words.
func TestWords(t *testing.T) {
	words := []string{"1", "\n", "\n", "\t", "true", "error", " ", "5", "rows", "?", "x", "?y", "<a>", "\"b\"", "_:", "@", "^^"}
	right := 0
	var grow func(s string, n int)
	grow = func(s string, n int) {
		right += gets(t, s)
		for _, w := range words {
			if n > 0 {
				grow(s+w, n-1)
			}
		}
	}
	grow("", 3)
	for _, first := range []string{"1\n", "1\nrows\n", "1\nrows\n\n", "1\nrows\n?x\n", "1\nrows\n?x", "1\nrows\n?x\t?y\n", "1\nrows\n?x\t?y\n\t", "1\nrows\n?x\n\"b\"", "1\nrows\n?x\n<a>", "1\nerror"} {
		grow(first, 3)
	}
	if right < 100 {
		t.Errorf("%d were right", right)
	}
}

// P17.4: two right replies have the same bytes just if they are the same.
func TestSameBytes(t *testing.T) {
	g := newGrower(7)
	alike, unlike := 0, 0
	for range 40000 {
		a := g.reply()
		b := one(g, g.changed(a), g.changed(a), g.changed(g.changed(a)), g.reply())
		x, e := result.Put(a)
		y, d := result.Put(b)
		if e != api.OK || d != api.OK {
			continue
		}
		is := result.Same(a, b)
		if is != (x == y) || is != result.Same(b, a) || is != same(a, b) {
			t.Fatalf("%s and %s: %t, but %s and %s", brief(a), brief(b), is, brief(x), brief(y))
		}
		if is {
			alike++
		} else {
			unlike++
		}
	}
	if alike < 2000 || unlike < 2000 {
		t.Errorf("%d were the same, %d were not", alike, unlike)
	}
}

// P17.4: each two of few small replies.
func TestSameBytesOfEachTwo(t *testing.T) {
	var l []api.Reply
	terms := []api.Term{{}, iri("a"), blank("a"), literal("a"), literal(""), literal("<a>"), literal("\t"), literal("\n"), literal("\\t"), typed("a", "t"), tagged("a", "t"), literal("\"a\"")}
	for _, id := range []int{0, 1, 10} {
		l = append(l, truth(id, true), truth(id, false))
		for e := api.Errno(1); e <= 9; e++ {
			l = append(l, failed(id, e))
		}
		for n := range 4 {
			l = append(l, tabled(id, "", make([][]api.Term, n)...))
		}
	}
	for _, vars := range []string{"x", "y", "x1"} {
		for n := range 3 {
			l = append(l, tabled(1, vars, column(n, api.Term{})...))
		}
		for _, x := range terms[1:] {
			l = append(l, tabled(1, vars, row(x)), tabled(1, vars, row(x), row()[:0:0]), tabled(1, vars, row(x), row(api.Term{})), tabled(1, vars, row(api.Term{}), row(x)))
		}
	}
	for _, vars := range []string{"x y", "y x"} {
		for _, x := range terms {
			for _, y := range terms {
				l = append(l, tabled(1, vars, row(x, y)))
			}
		}
	}
	l = slices.DeleteFunc(l, func(r api.Reply) bool { return result.Check(r) != api.OK })
	bytes := make([]string, len(l))
	for i, r := range l {
		bytes[i] = plainPut(r)
		puts(t, r, bytes[i])
	}
	for i, a := range l {
		for j, b := range l {
			if is := result.Same(a, b); is != (i == j) || is != (bytes[i] == bytes[j]) {
				t.Fatalf("%s and %s: %t", brief(a), brief(b), is)
			}
		}
	}
}
