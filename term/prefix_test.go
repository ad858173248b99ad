package term_test

import (
	"strings"
	"testing"

	"legation/api"
	"legation/term"
)

type ahead struct {
	s string
	x api.Term
	n int
}

func checkAhead(t *testing.T, l []ahead) {
	t.Helper()
	for _, one := range l {
		if x, n := term.Prefix(one.s); x != one.x || n != one.n {
			t.Errorf("%.60q: %+v %d", one.s, x, n)
		}
	}
}

// P1.2: IRIs up to the first >.
func TestPrefixOfIris(t *testing.T) {
	long := strings.Repeat("i", api.MaxText)
	checkAhead(t, []ahead{
		{"<a>", iri("a"), 3},
		{"<a> <b>", iri("a"), 3},
		{"<a>>", iri("a"), 3},
		{"<a><b>", iri("a"), 3},
		{"<?x>y", iri("?x"), 4},
		{"<a>\xff", iri("a"), 3},
		{"<" + long + ">.", iri(long), api.MaxText + 2},
		{"<" + long + "i>", api.Term{}, 0},
		{"<>", api.Term{}, 0},
		{"<>a>", api.Term{}, 0},
		{"<a", api.Term{}, 0},
		{"<", api.Term{}, 0},
		{"<= 1", api.Term{}, 0},
		{"< ?x && ?y >", api.Term{}, 0},
		{"<a b>", api.Term{}, 0},
		{"<a<b>", api.Term{}, 0},
		{"<a\x7f>", api.Term{}, 0},
		{"<é>", api.Term{}, 0},
		{" <a>", api.Term{}, 0},
		{"<" + strings.Repeat("i", 1<<20), api.Term{}, 0},
	})
}

// P1.2: blank nodes and variables, as many bytes as are a name's.
func TestPrefixOfNames(t *testing.T) {
	long := strings.Repeat("a", 32)
	for _, one := range []struct {
		ahead string
		make  func(string) api.Term
	}{{"_:", blank}, {"?", variable}} {
		k := len(one.ahead)
		checkAhead(t, []ahead{
			{one.ahead + "x", one.make("x"), k + 1},
			{one.ahead + "x .", one.make("x"), k + 1},
			{one.ahead + "x.", one.make("x"), k + 1},
			{one.ahead + "x_1-2", one.make("x_1"), k + 3},
			{one.ahead + "Ab9?x", one.make("Ab9"), k + 3},
			{one.ahead + "xé", one.make("x"), k + 1},
			{one.ahead + "x\xff", one.make("x"), k + 1},
			{one.ahead + "x\x00", one.make("x"), k + 1},
			{one.ahead + long, one.make(long), k + 32},
			{one.ahead + long + ".", one.make(long), k + 32},
			{one.ahead + long + "b", one.make(long), k + 32},
			{one.ahead + long + "_1 .", one.make(long), k + 32},
			{one.ahead, api.Term{}, 0},
			{one.ahead + " x", api.Term{}, 0},
			{one.ahead + "1", api.Term{}, 0},
			{one.ahead + "_x", api.Term{}, 0},
			{one.ahead + one.ahead + "x", api.Term{}, 0},
			{one.ahead + "é", api.Term{}, 0},
			{" " + one.ahead + "x", api.Term{}, 0},
		})
	}
	checkAhead(t, []ahead{{"_", api.Term{}, 0}, {"_a", api.Term{}, 0}, {":a", api.Term{}, 0}, {"_ :a", api.Term{}, 0}})
}

// P1.2: literals up to the double quote that ends them, and a Type or a Lang that is right.
func TestPrefixOfLiterals(t *testing.T) {
	long := strings.Repeat("l", api.MaxText)
	checkAhead(t, []ahead{
		{`""`, literal(""), 2},
		{`"""`, literal(""), 2},
		{`"a" .`, literal("a"), 3},
		{`"a""b"`, literal("a"), 3},
		{`"a\""b"`, literal("a\""), 5},
		{`"a\\"b"`, literal("a\\"), 5},
		{`"a\\\""b"`, literal("a\\\""), 7},
		{`"\n\t\"\\" .`, literal("\n\t\"\\"), 10},
		{"\"" + long + "\"x", literal(long), api.MaxText + 2},
		{"\"" + strings.Repeat("\\\"", api.MaxText) + "\"x", literal(strings.Repeat("\"", api.MaxText)), 2*api.MaxText + 2},
		{"\"" + long + "l\"", api.Term{}, 0},
		{`"`, api.Term{}, 0},
		{`"a`, api.Term{}, 0},
		{`"\"`, api.Term{}, 0},
		{`"\`, api.Term{}, 0},
		{`"\a"`, api.Term{}, 0},
		{`"\a" "b"`, api.Term{}, 0},
		{"\"a\nb\"", api.Term{}, 0},
		{"\"a\tb\"", api.Term{}, 0},
		{"\"\\\n\"", api.Term{}, 0},
		{"\"\x7f\"", api.Term{}, 0},
		{"\"é\"", api.Term{}, 0},
		{"\"\\é\"", api.Term{}, 0},
		{"\"a\"é", literal("a"), 3},
		{"\"a\"\xff", literal("a"), 3},
		{"\"" + strings.Repeat("l", 1<<20), api.Term{}, 0},
		{"\"" + strings.Repeat("\\", 1<<20), api.Term{}, 0},
	})
}

// P1.2: a Type that is not right is none of the term's.
func TestPrefixOfTypes(t *testing.T) {
	long := strings.Repeat("t", api.MaxText)
	checkAhead(t, []ahead{
		{`"a"^^<t>`, typed("a", "t"), 8},
		{`"a"^^<t> .`, typed("a", "t"), 8},
		{`"a"^^<t>>`, typed("a", "t"), 8},
		{`"a"^^<t>@en`, typed("a", "t"), 8},
		{`"a"^^<t>^^<u>`, typed("a", "t"), 8},
		{`""^^<` + long + `>.`, typed("", long), api.MaxText + 6},
		{`""^^<` + long + `t>`, literal(""), 2},
		{`"a"^^<>`, literal("a"), 3},
		{`"a"^^<t`, literal("a"), 3},
		{`"a"^^<t u>`, literal("a"), 3},
		{`"a"^^<t<u>`, literal("a"), 3},
		{`"a"^^<é>`, literal("a"), 3},
		{`"a"^^ <t>`, literal("a"), 3},
		{`"a" ^^<t>`, literal("a"), 3},
		{`"a"^<t>`, literal("a"), 3},
		{`"a"^^t`, literal("a"), 3},
		{`"a"^^`, literal("a"), 3},
		{`"a"^`, literal("a"), 3},
		{`"a"<t>`, literal("a"), 3},
	})
}

// P1.2: a Lang of all small letters; of more than eight none follows.
func TestPrefixOfLangs(t *testing.T) {
	checkAhead(t, []ahead{
		{`"a"@e`, worded("a", "e"), 5},
		{`"a"@en`, worded("a", "en"), 6},
		{`"a"@en .`, worded("a", "en"), 6},
		{`"a"@en-us`, worded("a", "en"), 6},
		{`"a"@enUS`, worded("a", "en"), 6},
		{`"a"@en1`, worded("a", "en"), 6},
		{`"a"@enéé`, worded("a", "en"), 6},
		{`"a"@en@de`, worded("a", "en"), 6},
		{`"a"@en^^<t>`, worded("a", "en"), 6},
		{`"a"@abcdefg`, worded("a", "abcdefg"), 11},
		{`"a"@abcdefgh`, worded("a", "abcdefgh"), 12},
		{`"a"@abcdefghI`, worded("a", "abcdefgh"), 12},
		{`"a"@abcdefghi`, literal("a"), 3},
		{`"a"@abcdefghi .`, literal("a"), 3},
		{`"a"@` + strings.Repeat("e", 1<<20), literal("a"), 3},
		{`"a"@`, literal("a"), 3},
		{`"a"@ en`, literal("a"), 3},
		{`"a" @en`, literal("a"), 3},
		{`"a"@En`, literal("a"), 3},
		{`"a"@1`, literal("a"), 3},
		{`"a"@é`, literal("a"), 3},
		{`"a"@@en`, literal("a"), 3},
	})
}

// P1.2: texts that begin with no term.
func TestPrefixOfNone(t *testing.T) {
	for i := range 256 {
		for _, s := range []string{"", string([]byte{byte(i)}), string([]byte{byte(i), ' '}), "\xe2\x82", " ?x", "a?x"} {
			if x, n := term.Prefix(s); x != (api.Term{}) || n != 0 {
				t.Errorf("%q: %+v %d", s, x, n)
			}
		}
	}
}

// longestAhead tells the term of the longest of those texts that s begins with.
func longestAhead(all map[string]api.Term, s string) (api.Term, int) {
	for n := len(s); n > 0; n-- {
		if x, ok := all[s[:n]]; ok {
			return x, n
		}
	}
	return api.Term{}, 0
}

// P1.2: where no name and no Lang can be too long, Prefix is the longest text of a right term that a text begins with.
func TestPrefixOfEveryShortText(t *testing.T) {
	all := texts(4)
	every("t@", 2, func(s string) {
		if s != "" {
			all[plainText(typed("", s))] = typed("", s)
		}
	})
	for n := range 6 {
		x := worded("", strings.Repeat("t", n+1))
		all[plainText(x)] = x
	}
	check := func(s string) {
		y, k := longestAhead(all, s)
		if x, n := term.Prefix(s); x != y || n != k {
			t.Fatalf("%q: %+v %d", s, x, n)
		}
	}
	every(alphabet, 5, check)
	every("^<>t@", 6, func(s string) { check("\"\"" + s) })
}

// P1.6: what can't go on with a right term's text changes nothing of it.
func TestPrefixWithMoreBehind(t *testing.T) {
	behind := []string{"", " ", " .", "\n", "\t", ".", ",", ")", "(", "}", "{", "-", "<", ">", "=", "!", "?", "?x", "\"", "\"a\"", "#", "\x00", "\x7f", "\x80", "\xff", "é", "<a>", "^", "^^", "^^<", "^^<>", "^^<t", "^^t", "@", "@1", "@E", "@abcdefghi", " ^^<t>", " @en"}
	for _, x := range some() {
		s, e := term.Text(x)
		if e != api.OK || s == "" {
			continue
		}
		for _, b := range behind {
			if y, n := term.Prefix(s + b); y != x || n != len(s) {
				t.Errorf("%.60q%q: %+v %d", s, b, y, n)
			}
		}
	}
}
