package term_test

import (
	"sort"
	"strings"
	"testing"

	"legation/api"
	"legation/term"
)

// The bytes that may stand in an IRI, written out so that the tests don't lean on the program's own rule.
const (
	smalls    = "abcdefghijklmnopqrstuvwxyz"
	capitals  = "ABCDEFGHIJKLMNOPQRSTUVWXYZ"
	digits    = "0123456789"
	nameBytes = smalls + capitals + digits + "_"
	iriBytes  = nameBytes + "!#$%&'()*+,-./:;=?@[]~"
)

func iri(s string) api.Term              { return api.Term{Kind: api.Iri, Text: s} }
func blank(s string) api.Term            { return api.Term{Kind: api.Blank, Text: s} }
func variable(s string) api.Term         { return api.Term{Kind: api.Var, Text: s} }
func literal(s string) api.Term          { return api.Term{Kind: api.Literal, Text: s} }
func typed(s, kind string) api.Term      { return api.Term{Kind: api.Literal, Text: s, Type: kind} }
func worded(s, language string) api.Term { return api.Term{Kind: api.Literal, Text: s, Lang: language} }

// some are right terms of each kind, none of them twice.
func some() []api.Term {
	return []api.Term{
		{},
		iri("a"), iri("b"), iri("http://t/?q=1#x"), iri("!"), iri("~"), iri(iriBytes), iri(strings.Repeat("i", api.MaxText)),
		literal(""), literal("a"), literal(" "), literal("~"), literal("a\tb\nc"), literal("\"\\"), literal("\\n"), literal("\n"),
		literal("<a>"), literal("@en"), literal(strings.Repeat("\"", api.MaxText)),
		typed("", "t"), typed("a", "t"), typed("a", "u"), typed("1", api.TypeInteger), typed("a", strings.Repeat("t", api.MaxText)),
		worded("", "e"), worded("a", "en"), worded("a", "de"), worded("a", "abcdefgh"), worded("\"@en", "en"),
		blank("a"), blank("n1"), blank("N_1"), blank(strings.Repeat("b", 32)),
		variable("a"), variable("x"), variable("Z9_"), variable(strings.Repeat("v", 32)),
	}
}

// wrong are terms that are not right, each by one fault.
func wrong() map[string]api.Term {
	return map[string]api.Term{
		"kind below":              {Kind: -1},
		"kind below, text":        {Kind: -1, Text: "a"},
		"kind above":              {Kind: 5, Text: "a"},
		"least kind":              {Kind: -1 << 63},
		"greatest kind":           {Kind: 1<<63 - 1},
		"none, text":              {Text: "a"},
		"none, type":              {Type: "t"},
		"none, lang":              {Lang: "en"},
		"iri, empty":              iri(""),
		"iri, too long":           iri(strings.Repeat("i", api.MaxText+1)),
		"iri, blank":              iri("a b"),
		"iri, type":               {Kind: api.Iri, Text: "a", Type: "t"},
		"iri, lang":               {Kind: api.Iri, Text: "a", Lang: "en"},
		"iri, letter beyond":      iri("é"),
		"iri, no letter":          iri("a\xff"),
		"blank, empty":            blank(""),
		"blank, digit first":      blank("1a"),
		"blank, underline first":  blank("_a"),
		"blank, too long":         blank(strings.Repeat("b", 33)),
		"blank, hyphen":           blank("a-b"),
		"blank, type":             {Kind: api.Blank, Text: "a", Type: "t"},
		"blank, lang":             {Kind: api.Blank, Text: "a", Lang: "en"},
		"variable, empty":         variable(""),
		"variable, digit first":   variable("1"),
		"variable, too long":      variable(strings.Repeat("v", 33)),
		"variable, full stop":     variable("a."),
		"variable, type":          {Kind: api.Var, Text: "a", Type: "t"},
		"variable, lang":          {Kind: api.Var, Text: "a", Lang: "en"},
		"literal, too long":       literal(strings.Repeat("l", api.MaxText+1)),
		"literal, carriage":       literal("a\rb"),
		"literal, nought":         literal("\x00"),
		"literal, 127":            literal("\x7f"),
		"literal, letter beyond":  literal("é"),
		"literal, no letter":      literal("\x80"),
		"literal, type too long":  typed("a", strings.Repeat("t", api.MaxText+1)),
		"literal, type no iri":    typed("a", "t t"),
		"literal, type brackets":  typed("a", "<t>"),
		"literal, type and lang":  {Kind: api.Literal, Text: "a", Type: "t", Lang: "en"},
		"literal, lang too long":  worded("a", "abcdefghi"),
		"literal, lang capital":   worded("a", "eN"),
		"literal, lang digit":     worded("a", "e1"),
		"literal, lang hyphen":    worded("a", "en-us"),
		"literal, lang beyond":    worded("a", "é"),
		"literal, lang and blank": worded("a", "en "),
	}
}

// P1.1: terms of each kind, right and not.
func TestCheck(t *testing.T) {
	for _, x := range some() {
		if e := term.Check(x); e != api.OK {
			t.Errorf("%+v: %d", x, e)
		}
	}
	for name, x := range wrong() {
		if e := term.Check(x); e != api.ErrForm {
			t.Errorf("%s: %d", name, e)
		}
		if s, e := term.Text(x); s != "" || e != api.ErrForm {
			t.Errorf("%s: text %q %d", name, s, e)
		}
	}
}

func want(right bool) api.Errno {
	if right {
		return api.OK
	}
	return api.ErrForm
}

// P1.1: each byte, at each place where a term has bytes.
func TestEachByte(t *testing.T) {
	for i := range 256 {
		c := string([]byte{byte(i)})
		inIri := want(strings.Contains(iriBytes, c))
		inLiteral := want(i >= 32 && i <= 126 || i == 9 || i == 10)
		inLang := want(strings.Contains(smalls, c))
		first := want(strings.Contains(smalls+capitals, c))
		later := want(strings.Contains(nameBytes, c))
		for _, one := range []struct {
			what string
			x    api.Term
			want api.Errno
		}{
			{"iri", iri(c), inIri}, {"iri, later", iri("a" + c + "b"), inIri},
			{"type", typed("a", c), inIri}, {"type, later", typed("a", "a"+c), inIri},
			{"literal", literal(c), inLiteral}, {"literal, later", literal("a" + c + "b"), inLiteral},
			{"lang", worded("a", c), inLang}, {"lang, later", worded("a", "a"+c), inLang},
			{"blank", blank(c), first}, {"blank, later", blank("a" + c), later}, {"blank, amid", blank("a" + c + "b"), later},
			{"variable", variable(c), first}, {"variable, later", variable("a" + c), later},
		} {
			if e := term.Check(one.x); e != one.want {
				t.Errorf("%s, byte %d: %d", one.what, i, e)
			}
		}
		if term.IsName(c) != (first == api.OK) || term.IsName("a"+c) != (later == api.OK) {
			t.Errorf("name, byte %d", i)
		}
	}
}

// P1.1: the lengths.
func TestIsName(t *testing.T) {
	for s, want := range map[string]bool{
		"": false, "a": true, "Z": true, "a1": true, "a_": true, "1a": false, "_": false, "_a": false,
		"a b": false, "a-": false, "?a": false, "é": false, "aé": false, "a\x00": false, "a\n": false,
		strings.Repeat("a", 31):          true,
		strings.Repeat("a", 32):          true,
		strings.Repeat("a", 33):          false,
		"a" + strings.Repeat("9", 31):    true,
		strings.Repeat("a", 31) + "é":    false,
		strings.Repeat("a", 1<<16):       false,
		strings.Repeat("a", 32) + "\xff": false,
	} {
		if term.IsName(s) != want {
			t.Errorf("%q", s)
		}
	}
}

// P1.5: Compare is an order, by Kind, Text, Type, Lang; of terms that are not right, too. (P1.3)
func TestCompare(t *testing.T) {
	for _, one := range []struct {
		ahead, behind api.Term
	}{
		{api.Term{}, iri("a")},
		{iri("z"), literal("a")},
		{literal("z"), blank("a")},
		{blank("z"), variable("a")},
		{iri("a"), iri("b")},
		{iri("a"), iri("aa")},
		{iri("B"), iri("a")},
		{iri("a10"), iri("a9")},
		{literal(""), literal("\t")},
		{literal("~"), literal("\xff")},
		{literal("~"), literal("é")},
		{typed("a", "z"), typed("b", "a")},
		{worded("a", "z"), worded("b", "a")},
		{literal("a"), typed("a", "t")},
		{literal("a"), worded("a", "e")},
		{worded("a", "z"), typed("a", "a")},
		{typed("a", "t"), typed("a", "u")},
		{worded("a", "de"), worded("a", "en")},
		{worded("a", "e"), worded("a", "en")},
		{api.Term{Kind: -1 << 63, Text: "z"}, api.Term{Kind: 1<<63 - 1}},
		{api.Term{Kind: -1}, api.Term{}},
		{api.Term{Type: "t", Lang: "a"}, api.Term{Type: "t", Lang: "b"}},
		{api.Term{Kind: api.Iri, Text: "a", Lang: "z"}, api.Term{Kind: api.Iri, Text: "a", Type: "a"}},
	} {
		a, b := one.ahead, one.behind
		if term.Compare(a, b) != -1 || term.Compare(b, a) != 1 || !term.Less(a, b) || term.Less(b, a) {
			t.Errorf("%+v %+v: %d %d", a, b, term.Compare(a, b), term.Compare(b, a))
		}
	}
}

func TestOrder(t *testing.T) {
	l := some()
	for _, x := range wrong() {
		l = append(l, x)
	}
	for _, a := range l {
		for _, b := range l {
			x := term.Compare(a, b)
			if (x == 0) != (a == b) || x != -term.Compare(b, a) || term.Less(a, b) != (x == -1) || x < -1 || x > 1 {
				t.Errorf("%+v %+v: %d", a, b, x)
			}
			for _, c := range l {
				if term.Less(a, b) && term.Less(b, c) && !term.Less(a, c) {
					t.Errorf("%+v %+v %+v", a, b, c)
				}
			}
		}
	}
	sort.Slice(l, func(i, j int) bool { return term.Less(l[i], l[j]) })
	for i := range len(l) - 1 {
		if term.Compare(l[i], l[i+1]) > 0 {
			t.Errorf("%+v ahead of %+v", l[i], l[i+1])
		}
	}
}
