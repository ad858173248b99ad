package lex_test

import (
	"math"
	"slices"
	"strings"
	"testing"

	"legation/api"
	"legation/lex"
)

// P5.1, P5.2: a query's words with all their fields.
func TestFields(t *testing.T) {
	s := " SELECT ?x {\n\t<a> 1.5 10<=\"b\"@en}"
	want := []api.Token{
		{Kind: api.TWord, Text: "SELECT", At: 1},
		{Kind: api.TVar, Text: "x", At: 8},
		{Kind: api.TSign, Text: "{", At: 11},
		{Kind: api.TTerm, Term: api.Term{Kind: api.Iri, Text: "a"}, At: 14},
		{Kind: api.TTerm, Term: api.Term{Kind: api.Literal, Text: "1.5", Type: api.TypeDecimal}, At: 18},
		{Kind: api.TNum, Text: "10", At: 22},
		{Kind: api.TSign, Text: "<=", At: 24},
		{Kind: api.TTerm, Term: api.Term{Kind: api.Literal, Text: "b", Lang: "en"}, At: 26},
		{Kind: api.TSign, Text: "}", At: 32},
	}
	if l, n, e := lex.Lex(s); !slices.Equal(l, want) || n != 0 || e != api.OK {
		t.Errorf("%+v %d %d", l, n, e)
	}
	ends := []int{7, 10, 12, 17, 21, 24, 26, 32, 33}
	at := 0
	for i, w := range want {
		x, end, e := lex.Next(s, at)
		if x != w || end != ends[i] || e != api.OK {
			t.Errorf("%d: %+v %d %d", i, x, end, e)
		}
		at = end
	}
	if x, end, e := lex.Next(s, at); x != (api.Token{}) || end != len(s) || e != api.OK {
		t.Errorf("%+v %d %d", x, end, e)
	}
}

// P5.1: places: from 0 to the text's length, and no others.
func TestPlaces(t *testing.T) {
	for _, one := range []struct {
		s    string
		at   int
		want api.Token
		end  int
		e    api.Errno
	}{
		{"", 0, api.Token{}, 0, api.OK},
		{"", -1, api.Token{}, 0, api.ErrForm},
		{"", 1, api.Token{}, 0, api.ErrForm},
		{"a", -1, api.Token{}, 0, api.ErrForm},
		{"a", 0, name("a"), 1, api.OK},
		{"a", 1, api.Token{}, 1, api.OK},
		{"a", 2, api.Token{}, 0, api.ErrForm},
		{"a", math.MaxInt, api.Token{}, 0, api.ErrForm},
		{"a", math.MinInt, api.Token{}, 0, api.ErrForm},
		{" \t\n", 0, api.Token{}, 3, api.OK},
		{" \t\n", 2, api.Token{}, 3, api.OK},
		{" \t\n", 3, api.Token{}, 3, api.OK},
		{" \t\n", 4, api.Token{}, 0, api.ErrForm},
		{"a \t\n", 1, api.Token{}, 4, api.OK},
		{"a  b", 1, api.Token{Kind: api.TWord, Text: "b", At: 3}, 4, api.OK},
		{"ab", 1, api.Token{Kind: api.TWord, Text: "b", At: 1}, 2, api.OK},
		{"?ab", 1, api.Token{Kind: api.TWord, Text: "ab", At: 1}, 3, api.OK},
		{"<=1.5", 1, api.Token{Kind: api.TSign, Text: "=", At: 1}, 2, api.OK},
		{"1.5 ", 1, api.Token{Kind: api.TSign, Text: ".", At: 1}, 2, api.OK},
		{"1.5 ", 2, api.Token{Kind: api.TNum, Text: "5", At: 2}, 3, api.OK},
		{"&&", 1, api.Token{}, 0, api.ErrForm},
		{"é a", 0, api.Token{}, 0, api.ErrForm},
		{"é a", 1, api.Token{}, 0, api.ErrForm},
		{"é a", 2, api.Token{Kind: api.TWord, Text: "a", At: 3}, 4, api.OK},
		{"a é", 1, api.Token{}, 0, api.ErrForm},
		{"a é", 0, name("a"), 1, api.OK},
		{"\r", 0, api.Token{}, 0, api.ErrForm},
	} {
		if x, end, e := lex.Next(one.s, one.at); x != one.want || end != one.end || e != one.e {
			t.Errorf("%q at %d: %+v %d %d", one.s, one.at, x, end, e)
		}
	}
}

// P5.1: Next has no bound on the text.
func TestNextOfLongTexts(t *testing.T) {
	n := 4 * api.MaxText
	long := strings.Repeat("a", n)
	if x, end, e := lex.Next(long, 0); x != name(long) || end != n || e != api.OK {
		t.Errorf("%d %d %d", x.Kind, end, e)
	}
	sevens := strings.Repeat("7", n)
	if x, end, e := lex.Next("("+sevens+".", 1); x.Text != sevens || x.Kind != api.TNum || end != n+1 || e != api.OK {
		t.Errorf("%d %d %d", x.Kind, end, e)
	}
	if x, end, e := lex.Next(sevens+".7", 0); x != decimal(sevens+".7") || end != n+2 || e != api.OK {
		t.Errorf("%d %d %d", x.Kind, end, e)
	}
	if x, end, e := lex.Next(strings.Repeat(" ", n), 0); x != (api.Token{}) || end != n || e != api.OK {
		t.Errorf("%+v %d %d", x, end, e)
	}
	if x, end, e := lex.Next(strings.Repeat("\n", n)+"?x ", 2); x != (api.Token{Kind: api.TVar, Text: "x", At: n}) || end != n+2 || e != api.OK {
		t.Errorf("%+v %d %d", x, end, e)
	}
	if x, end, e := lex.Next("<"+long+">", 0); x != sign("<") || end != 1 || e != api.OK {
		t.Errorf("%+v %d %d", x, end, e)
	}
	if x, end, e := lex.Next("\""+long+"\"", 0); x != (api.Token{}) || end != 0 || e != api.ErrForm {
		t.Errorf("%+v %d %d", x, end, e)
	}
}

// P5.1, P5.2: every short text, and every place of it, as a plain reading of the chapter has it.
func TestEveryShortText(t *testing.T) {
	check := func(s string) {
		for at := range len(s) + 1 {
			x, end, e := lex.Next(s, at)
			if y, n, f := plainNext(s, at); x != y || end != n || e != f {
				t.Fatalf("%q at %d: %+v %d %d, not %+v %d %d", s, at, x, end, e, y, n, f)
			}
		}
		l, at, e := lex.Lex(s)
		if k, n, f := plainLex(s); !slices.Equal(l, k) || at != n || e != f {
			t.Fatalf("%q: %+v %d %d, not %+v %d %d", s, l, at, e, k, n, f)
		}
	}
	every("a1. <>=!&?_:\"\n\xc3", 3, check)
	every("a1.\t", 6, check)
	every("<=>! ", 6, check)
	every("&|=", 6, check)
	every("_:?a1", 5, check)
	every("\"a@^<>", 5, check)
	for _, s := range texts() {
		check(s)
	}
}

// P5.2: a text of MaxText bytes, and of more, whatever they are.
func TestTextsTooLong(t *testing.T) {
	for _, s := range []string{" ", "\n", "a", "1", "(", "<a>", "?x ", "é", "\x00", "\"", "?"} {
		l := strings.Repeat(s, api.MaxText)
		most, more := l[:api.MaxText], (l + l)[:api.MaxText+1]
		if s == "?x " || s == "<a>" { // whole ones, so that the last one is right
			most = l[:api.MaxText/len(s)*len(s)] + strings.Repeat(" ", api.MaxText%len(s))
		}
		k, n, e := lex.Lex(most)
		if m, at, f := plainLex(most); !slices.Equal(k, m) || n != at || e != f {
			t.Errorf("%q: %d words, %d %d, not %d, %d %d", s, len(k), n, e, len(m), at, f)
		}
		for _, long := range []string{more, l + l, strings.Repeat(s, 1<<20)} {
			if k, n, e := lex.Lex(long); len(k) != 0 || n != 0 || e != api.ErrLong {
				t.Errorf("%q, %d bytes: %d words, %d %d", s, len(long), len(k), n, e)
			}
		}
	}
	if l, n, e := lex.Lex(strings.Repeat(" ", api.MaxText-1) + "a"); !slices.Equal(l, []api.Token{{Kind: api.TWord, Text: "a", At: api.MaxText - 1}}) || n != 0 || e != api.OK {
		t.Errorf("%+v %d %d", l, n, e)
	}
	if l, n, e := lex.Lex(strings.Repeat(" ", api.MaxText-1) + "&"); len(l) != 0 || n != api.MaxText-1 || e != api.ErrForm {
		t.Errorf("%+v %d %d", l, n, e)
	}
}

// P5.2: MaxTokens words; one more has no room in MaxText bytes.
func TestMaxTokens(t *testing.T) {
	s := strings.Repeat("(", api.MaxTokens)
	l, n, e := lex.Lex(s)
	if len(l) != api.MaxTokens || n != 0 || e != api.OK {
		t.Fatalf("%d words, %d %d", len(l), n, e)
	}
	for i, w := range l {
		if w != (api.Token{Kind: api.TSign, Text: "(", At: i}) {
			t.Fatalf("%d: %+v", i, w)
		}
	}
	if l, n, e := lex.Lex(s + "("); len(l) != 0 || n != 0 || e != api.ErrLong {
		t.Errorf("%d words, %d %d", len(l), n, e)
	}
}

// P5.2: the place of the first one that is none: at the start, in the middle, behind the last word.
func TestPlaceOfNone(t *testing.T) {
	checkNone(t, map[string]int{
		"&":                                      0,
		"  & ?x":                                 2,
		"\n\t ? x":                               3,
		"?x & ?y":                                3,
		"?x\n&?y & &":                            3,
		"?x ?y &":                                6,
		"?x ?y&":                                 5,
		"SELECT ?x WHERE { ?x # }":               21,
		"<a> <b> \"c":                            8,
		"<a> <b> \"c\" . ?":                      14,
		"<a> <b> \"c\" . ?  \n":                  14,
		"1.5 1.5 é 1.5 é":                        8,
		strings.Repeat("(", api.MaxText-1) + "&": api.MaxText - 1,
	})
}

// P5.3: texts of words of each kind, of terms of each kind.
func TestJoin(t *testing.T) {
	for want, l := range map[string][]api.Token{
		"":                                   nil,
		"a":                                  {name("a")},
		"?x":                                 {asked("x")},
		"12":                                 {digits("12")},
		"<=":                                 {sign("<=")},
		"<a>":                                {iri("a")},
		"_:a":                                {blank("a")},
		"\"a\\\"\\\\\\n\\t\"":                {literal("a\"\\\n\t")},
		"\"a\"@en":                           {worded("a", "en")},
		"\"1\"^^<t>":                         {typed("1", "t")},
		"\"1.5\"^^<" + api.TypeDecimal + ">": {decimal("1.5")},
		"a b":                                {name("a"), name("b")},
		"< =":                                {sign("<"), sign("=")},
		"SELECT ?x WHERE { ?x":               {name("SELECT"), asked("x"), name("WHERE"), sign("{"), asked("x")},
		"( ?x + 1 )":                         {sign("("), asked("x"), sign("+"), digits("1"), sign(")")},
	} {
		if s := lex.Join(l); s != want {
			t.Errorf("%+v: %q", l, s)
		}
	}
	if s := lex.Join([]api.Token{}); s != "" {
		t.Errorf("%q", s)
	}
}

// P5.3: a term's text stands for it, whatever else the word has; of others just Text does.
func TestJoinOfWrongWords(t *testing.T) {
	a, wrong := api.Term{Kind: api.Iri, Text: "a"}, api.Term{Kind: api.Iri, Text: "a b"}
	for _, one := range []struct {
		w    api.Token
		want string
	}{
		{api.Token{}, ""},
		{api.Token{At: 7}, ""},
		{of(api.Term{}), ""},
		{of(wrong), ""},
		{of(api.Term{Kind: api.Iri}), ""},
		{of(api.Term{Kind: api.Iri, Text: "a", Lang: "en"}), ""},
		{of(api.Term{Kind: api.Literal, Text: "é"}), ""},
		{of(api.Term{Kind: api.Blank, Text: "1"}), ""},
		{of(api.Term{Kind: api.Var}), ""},
		{of(api.Term{Kind: 5, Text: "a"}), ""},
		{of(api.Term{Kind: -1, Text: "a"}), ""},
		{decimal(strings.Repeat("7", api.MaxText+1)), ""},
		{of(api.Term{Kind: api.Var, Text: "x"}), "?x"},
		{api.Token{Kind: api.TTerm, Text: "b", Term: a, At: -1}, "<a>"},
		{api.Token{Kind: api.TTerm, Text: "b"}, ""},
		{api.Token{Kind: api.TVar, Text: "x", Term: a}, "?x"},
		{asked(""), "?"},
		{asked("1 é"), "?1 é"},
		{api.Token{Kind: api.TWord, Text: "b", Term: a}, "b"},
		{name("\x00\xff é"), "\x00\xff é"},
		{digits("x"), "x"},
		{sign(";"), ";"},
		{api.Token{Kind: 6, Text: "b", Term: a}, "b"},
		{api.Token{Kind: 0, Text: "b"}, "b"},
		{api.Token{Kind: -1, Text: "b"}, "b"},
		{api.Token{Kind: math.MaxInt, Text: "b"}, "b"},
		{api.Token{Kind: math.MinInt, Text: "b"}, "b"},
	} {
		if s := lex.Join([]api.Token{one.w}); s != one.want {
			t.Errorf("%+v: %q", one.w, s)
		}
		if s := lex.Join([]api.Token{one.w, name("c"), one.w, one.w}); s != one.want+" c "+one.want+" "+one.want {
			t.Errorf("%+v among others: %q", one.w, s)
		}
	}
}

// taken tells the words that Next tells one behind the other, but for their places: of texts of any length.
func taken(t *testing.T, s string) []api.Token {
	t.Helper()
	var l []api.Token
	at := 0
	for {
		w, end, e := lex.Next(s, at)
		if e != api.OK {
			t.Fatalf("%.80q at %d: %d", s, at, e)
		}
		if w.Kind == 0 {
			return without(l)
		}
		l, at = append(l, w), end
	}
}

// P5.4: the words of the text that joins a text's words are the same, but for their places. (That text may be too long for Lex.)
func TestJoinedWordsAgain(t *testing.T) {
	check := func(s string) {
		l, _, e := lex.Lex(s)
		if e != api.OK {
			return
		}
		joined := lex.Join(l)
		if k := taken(t, joined); !slices.Equal(k, without(l)) {
			t.Fatalf("%.80q: %.80q: %+v", s, joined, k)
		}
		if k, n, e := lex.Lex(joined); len(joined) <= api.MaxText && (!slices.Equal(without(k), without(l)) || n != 0 || e != api.OK) {
			t.Fatalf("%.80q: %.80q: %+v %d %d", s, joined, k, n, e)
		}
	}
	every("a1. <>=!\"", 4, check)
	every("<=>!& ", 5, check)
	every("\"a@^<>", 5, check)
	for _, s := range append(texts(), strings.Repeat("(", api.MaxTokens), strings.Repeat("1.5.", api.MaxText/4), strings.Repeat("7", api.MaxText-2)+".7") {
		check(s)
	}
}

// P5.5: places rise, and what stands between words is just blanks, tabs and line feeds.
func TestBetweenWords(t *testing.T) {
	right := 0
	for _, s := range texts() {
		l, _, e := lex.Lex(s)
		if e != api.OK {
			continue
		}
		right++
		at := 0
		for i, w := range l {
			if w.At < at || i > 0 && w.At <= l[i-1].At || strings.Trim(s[at:w.At], " \t\n") != "" {
				t.Errorf("%q: %+v at %d", s, w, at)
			}
			x, end, e := lex.Next(s, w.At)
			if x != w || end <= w.At || e != api.OK {
				t.Errorf("%q: %+v, not %+v, %d %d", s, x, w, end, e)
			}
			at = end
		}
		if strings.Trim(s[at:], " \t\n") != "" {
			t.Errorf("%q: %q is left", s, s[at:])
		}
	}
	if right < 8 {
		t.Errorf("just %d right texts", right)
	}
}

// Rule 3: what is handed in, and what lies behind its end, stays as it is; answers share nothing.
func TestNothingShared(t *testing.T) {
	all := []api.Token{name("a"), asked("x"), iri("a"), of(api.Term{Kind: 9}), sign("<="), digits("1")}
	before := slices.Clone(all)
	for n := range len(all) + 1 {
		lex.Join(all[:n])
		if !slices.Equal(all, before) {
			t.Fatalf("%d: %+v", n, all)
		}
	}
	for _, s := range texts() {
		l, _, _ := lex.Lex(s)
		kept := slices.Clone(l)
		k, _, _ := lex.Lex(s)
		for i := range k {
			k[i] = api.Token{Kind: 9}
		}
		if m, _, _ := lex.Lex(s); !slices.Equal(l, kept) || !slices.Equal(m, kept) {
			t.Errorf("%q: %+v %+v", s, l, m)
		}
	}
}
