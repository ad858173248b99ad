package request_test

import (
	"slices"
	"strconv"
	"strings"
	"testing"

	"legation/api"
	"legation/print"
	"legation/query"
	"legation/request"
)

// P16.3: Get of Put is the request, Put of Get the bytes; both are as by the tests' own reading.
func TestThereAndBack(t *testing.T) {
	g := newGrower(3)
	for range 20000 {
		r := g.request()
		puts(t, r, plainPut(r))
	}
}

// P16.3: requests out of their bounds are refused, and just these.
func TestGrownBounds(t *testing.T) {
	g := newGrower(4)
	long := 0
	for range 2000 {
		r := g.request()
		r.Id = one(g, r.Id, 4090+g.r.IntN(12), g.r.IntN(12)-6, one(g, numbers()...))
		r.Text = strings.Repeat(r.Text+" ", one(g, 1, 1, 4096/(len(r.Text)+1), 4096/(len(r.Text)+1)+1))
		switch {
		case r.Id < 0 || r.Id > 4095:
			unput(t, r, api.ErrRange)
			ungot(t, plainPut(r))
		case len(r.Text) > 4096:
			long++
			unput(t, r, api.ErrLong)
			ungot(t, plainPut(r))
		default:
			puts(t, r, plainPut(r))
		}
	}
	if long < 100 {
		t.Errorf("%d were too long", long)
	}
}

// gets holds that bytes are read as by the tests' own reading.
func gets(t *testing.T, b string) bool {
	t.Helper()
	r, is := plainGet(b)
	if is {
		puts(t, r, b)
	} else {
		ungot(t, b)
	}
	return is
}

// P16.3: bytes nearly right are read as the chapter writes them, or as none's.
func TestNearlyRight(t *testing.T) {
	g := newGrower(5)
	right := 0
	for range 40000 {
		b := []byte(plainPut(g.request()))
		for range 1 + g.r.IntN(2) {
			i := g.r.IntN(len(b))
			b = slices.Replace(b, i, i+g.r.IntN(2), one(g, telling[g.r.IntN(len(telling))], byte('0'+g.r.IntN(10)), byte(g.r.IntN(256)), b[g.r.IntN(len(b))]))
		}
		if gets(t, string(b)) {
			right++
		}
	}
	if right < 3000 {
		t.Errorf("%d were right", right)
	}
}

// P16.3: each text of few words.
func TestWords(t *testing.T) {
	words := []string{"id", "query", "=", "=", "&", "id=1", "&query=", "query=a", "%20", "%41", "%3d", "0", "4", "4095", "-", " "}
	right := 0
	var grow func(s string, n int)
	grow = func(s string, n int) {
		if gets(t, s) {
			right++
		}
		for _, w := range words {
			if n > 0 {
				grow(s+w, n-1)
			}
		}
	}
	grow("", 4)
	for _, first := range []string{"id=", "id=40", "id=1&query=", "id=0&query=%20"} {
		grow(first, 3)
	}
	if right < 1000 {
		t.Errorf("%d were right", right)
	}
}

// P16.3: each text of at most four bytes that may be an Id's.
func TestEachId(t *testing.T) {
	right := 0
	bytes := "0123456789-+%aF"
	var grow func(s string, n int)
	grow = func(s string, n int) {
		if gets(t, "id="+s+"&query=q") {
			right++
			if id, _, _ := request.Asked("id=" + s + "&query=q"); strconv.Itoa(id) != s {
				t.Fatalf("%s: %d", s, id)
			}
		}
		for i := range len(bytes) {
			if n > 0 {
				grow(s+bytes[i:i+1], n-1)
			}
		}
	}
	grow("", 4)
	if right != 4096 {
		t.Errorf("%d were right", right)
	}
}

// P16.4: Asked of Ask is the id and the query.
func TestAskedOfAsk(t *testing.T) {
	g := newGrower(6)
	long, many := 0, 0
	count := map[int]int{}
	for range 4000 {
		q := g.query()
		id := g.r.IntN(4096)
		text, e := print.Text(q)
		switch {
		case e != api.OK:
			many++
			unasked(t, id, q, e)
			unasked(t, -1, q, e)
		case len(text) > 4096:
			long++
			unasked(t, id, q, api.ErrLong)
			unasked(t, 4096, q, api.ErrRange)
		default:
			for _, o := range q.Code {
				count[o.Kind]++
			}
			asks(t, id, q, plainPut(api.Request{Id: id, Text: text}))
			unasked(t, 4096+id, q, api.ErrRange)
		}
	}
	for kind := api.OBasic; kind <= api.OService; kind++ {
		if count[kind] < 300 {
			t.Errorf("%d operations of the kind %d", count[kind], kind)
		}
	}
	if long < 50 || many < 50 {
		t.Errorf("%d were too long, %d had too many operations", long, many)
	}
}

// P16.4: what is asked with words taken out or put elsewhere is what query.Parse says of it, its error or the query.
func TestAskedOfChanged(t *testing.T) {
	g := newGrower(7)
	count := map[api.Errno]int{}
	for range 4000 {
		text, _ := print.Text(g.query())
		words := strings.Fields(text)
		if len(words) == 0 || len(text) > 4096 {
			continue
		}
		i, j := g.r.IntN(len(words)), g.r.IntN(len(words))
		if g.r.IntN(2) == 0 {
			words[i] = words[j]
		} else {
			words = slices.Delete(words, i, min(i+1+g.r.IntN(2), len(words)))
		}
		s := strings.Join(words, one(g, " ", "\n", "\t\t"))
		if len(s) > 4096 {
			continue
		}
		q, want := query.Parse(s)
		count[want]++
		r := api.Request{Id: g.r.IntN(4096), Text: s}
		id, x, e := request.Asked(plainPut(r))
		if id != r.Id || !same(x, q) || e != want {
			t.Fatalf("%s: %d, %s, %d; not %d, %s, %d", brief(s), id, brief(x), e, r.Id, brief(q), want)
		}
		if e == api.OK {
			text, _ := print.Text(q)
			asksIfShort(t, r.Id, q, text)
		}
	}
	if count[api.OK] < 150 || count[api.ErrForm] < 1000 || count[api.ErrScope] < 10 {
		t.Errorf("%v", count)
	}
}

func asksIfShort(t *testing.T, id int, q api.Query, text string) {
	t.Helper()
	if len(text) > 4096 {
		unasked(t, id, q, api.ErrLong)
		return
	}
	asks(t, id, q, plainPut(api.Request{Id: id, Text: text}))
}
