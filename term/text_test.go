package term_test

import (
	"strings"
	"testing"

	"legation/api"
	"legation/term"
)

// plainText tells a term's text as the chapter words it; none of a term that is not right.
func plainText(x api.Term) string {
	switch x.Kind {
	case api.Iri:
		return "<" + x.Text + ">"
	case api.Blank:
		return "_:" + x.Text
	case api.Var:
		return "?" + x.Text
	case api.Literal:
		s := strings.NewReplacer("\"", "\\\"", "\\", "\\\\", "\n", "\\n", "\t", "\\t").Replace(x.Text)
		s = "\"" + s + "\""
		if x.Type != "" {
			s += "^^<" + x.Type + ">"
		}
		if x.Lang != "" {
			s += "@" + x.Lang
		}
		return s
	}
	return ""
}

// P1.1: texts written out.
func TestText(t *testing.T) {
	for s, x := range map[string]api.Term{
		"":                            {},
		"<http://a/b?c#d>":            iri("http://a/b?c#d"),
		"_:n1":                        blank("n1"),
		"?x":                          variable("x"),
		`""`:                          literal(""),
		`"a b"`:                       literal("a b"),
		`"\""`:                        literal("\""),
		`"\\"`:                        literal("\\"),
		`"\n"`:                        literal("\n"),
		`"\t"`:                        literal("\t"),
		`"\\n"`:                       literal("\\n"),
		`"\\\n\"\t"`:                  literal("\\\n\"\t"),
		`"<?_:>'"`:                    literal("<?_:>'"),
		`"a"^^<http://t>`:             typed("a", "http://t"),
		`""^^<t>`:                     typed("", "t"),
		`"1"^^<` + integer + `>`:      typed("1", api.TypeInteger),
		`"a"@en`:                      worded("a", "en"),
		`""@abcdefgh`:                 worded("", "abcdefgh"),
		`"\"@en"@e`:                   worded("\"@en", "e"),
		"?" + strings.Repeat("v", 32): variable(strings.Repeat("v", 32)),
	} {
		if got, e := term.Text(x); got != s || e != api.OK {
			t.Errorf("%+v: %q %d", x, got, e)
		}
		if got, e := term.Read(s); got != x || e != api.OK {
			t.Errorf("%q: %+v %d", s, got, e)
		}
	}
}

const integer = "http://www.w3.org/2001/XMLSchema#integer"

// P1.1: texts that are none's.
func TestReadOfNone(t *testing.T) {
	for _, s := range []string{
		" ", "a", "1", "_", ":", "^", "@en", "\x00", "é", "\xff", "()", ".",
		"<", ">", "<>", "<a", "a>", "<a b>", "<a>>", "<<a>", "<<a>>", "<a><b>", "<a> ", " <a>", "<a>.", "<\x7f>", "<é>", "<a\n>", "<\\>",
		"_:", "_", "_:1", "_:_", "_:a-", "_:a ", " _:a", "_a", "_: a", "_:é", ":a", "_:aé",
		"?", "?1", "?_", "?a ", "? a", "?a.", "??a", "?a?b", "$a", "?é",
		"_:" + strings.Repeat("b", 33), "?" + strings.Repeat("v", 33),
		`"`, `"a`, `a"`, `"a"b`, `"a""`, `"a" `, ` "a"`, `"\"`, `"\`, `"\\\"`, `"\a"`, `"\r"`, `"\N"`, `"\u0041"`, `"\0"`, `"\ "`, `"\é"`,
		"\"\n\"", "\"\t\"", "\"\r\"", "\"\\\n\"", "\"\\\t\"", "\"\x00\"", "\"\x7f\"", "\"é\"", "\"\xff\"", "'a'",
		`"a"^`, `"a"^^`, `"a"^^<`, `"a"^^<>`, `"a"^^<t`, `"a"^^t`, `"a"^<t>`, `"a"^^ <t>`, `"a"^^<t t>`, `"a"^^<t>>`, `"a"^^<t>@en`, `"a"^^<t>^^<t>`, `"a"^^"t"`, `"a"^^?t`, `"a"^^_:t`,
		`"a"@`, `"a"@E`, `"a"@EN`, `"a"@eN`, `"a"@1`, `"a"@e1`, `"a"@en-us`, `"a"@abcdefghi`, `"a"@en@en`, `"a"@en^^<t>`, `"a"@ en`, `"a"@en `, `"a"@é`,
		"<" + strings.Repeat("i", api.MaxText+1) + ">",
		"\"" + strings.Repeat("l", api.MaxText+1) + "\"",
		"\"" + strings.Repeat("\\n", api.MaxText+1) + "\"",
		"\"\"^^<" + strings.Repeat("t", api.MaxText+1) + ">",
	} {
		if x, e := term.Read(s); x != (api.Term{}) || e != api.ErrForm {
			t.Errorf("%.60q: %+v %d", s, x, e)
		}
	}
}

// P1.4: there and back, of terms, of each byte of a literal, and of long ones.
func TestThereAndBack(t *testing.T) {
	l := some()
	for i := range 256 {
		c := string([]byte{byte(i)})
		l = append(l, literal(c), literal("a"+c+c+"n"), typed("\\"+c, "t"), worded(c+"\"", "en"), iri(c), typed("", c), blank("a"+c), variable("a"+c))
	}
	for _, x := range l {
		s, e := term.Text(x)
		if e != term.Check(x) {
			t.Fatalf("%+v: %d", x, e)
		}
		if e != api.OK {
			continue
		}
		if s != plainText(x) {
			t.Errorf("%+v: %q", x, s)
		}
		if y, e := term.Read(s); y != x || e != api.OK {
			t.Errorf("%q: %+v %d", s, y, e)
		}
	}
}

// every calls f with each text of at most n bytes of those of alphabet, the empty one too.
func every(alphabet string, n int, f func(string)) {
	level := []string{""}
	for range n {
		var next []string
		for _, s := range level {
			f(s)
			for i := range len(alphabet) {
				next = append(next, s+alphabet[i:i+1])
			}
		}
		level = next
	}
	for _, s := range level {
		f(s)
	}
}

// P1.4, other way round: Text of Read is the text, and what Read takes are just the texts of right terms.
func TestEveryShortText(t *testing.T) {
	all := texts(4)
	count := 0
	every(alphabet, 5, func(s string) {
		x, e := term.Read(s)
		want, ok := all[s]
		if ok {
			count++
		}
		if ok != (e == api.OK) || x != want {
			t.Fatalf("%q: %+v %d", s, x, e)
		}
		if e != api.OK {
			return
		}
		if back, e := term.Text(x); back != s || e != api.OK {
			t.Fatalf("%q: back %q %d", s, back, e)
		}
	})
	if count < 1000 {
		t.Errorf("just %d texts", count)
	}
}

const alphabet = "<>\"\\_:?@anZ1\n"

// texts are the texts of right terms, and their terms: such as have at most n bytes of alphabet in Text (and more, if it has escapes).
func texts(n int) map[string]api.Term {
	all := map[string]api.Term{"": {}}
	every(alphabet, n, func(s string) {
		for _, x := range []api.Term{iri(s), blank(s), variable(s), literal(s), worded(s, "a"), worded(s, "n"), worded(s, "an"), worded(s, "na"), worded(s, "aa"), worded(s, "nn")} {
			if plainRight(x) {
				all[plainText(x)] = x
			}
		}
	})
	return all
}

// plainRight tells whether a term is right whose bytes are alphabet's, and which is short.
func plainRight(x api.Term) bool {
	switch x.Kind {
	case api.Iri:
		return x.Text != "" && !strings.ContainsAny(x.Text, "<>\"\\\n")
	case api.Blank, api.Var:
		return x.Text != "" && !strings.ContainsAny(x.Text, "<>\"\\\n:?@") && strings.Contains("anZ", x.Text[:1])
	}
	return true
}
