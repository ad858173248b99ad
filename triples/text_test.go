package triples_test

import (
	"regexp"
	"slices"
	"strconv"
	"strings"
	"testing"

	"legation/api"
	"legation/term"
	"legation/triples"
)

// rightTriples are triples of all right terms that may stand in one.
func rightTriples() []api.Triple {
	var l []api.Triple
	for _, s := range rightTerms() {
		for _, p := range rightTerms() {
			for _, o := range rightTerms() {
				if t := triple(s, p, o); one(s, true, api.Iri, api.Blank) && one(p, true, api.Iri) && one(o, true, api.Iri, api.Blank, api.Literal) {
					l = append(l, t)
				}
			}
		}
	}
	return l
}

// plainText tells a right triple's text as the chapter words it.
func plainText(x api.Triple) string {
	s, _ := term.Text(x.S)
	p, _ := term.Text(x.P)
	o, _ := term.Text(x.O)
	return s + " " + p + " " + o + " .\n"
}

// P3.1: texts written out, and back.
func TestText(t *testing.T) {
	for s, x := range map[string]api.Triple{
		"<a> <b> \"c\" .\n":                            triple(iri("a"), iri("b"), literal("c")),
		"<a> <b> <c> .\n":                              triple(iri("a"), iri("b"), iri("c")),
		"_:a <b> _:c1 .\n":                             triple(blank("a"), iri("b"), blank("c1")),
		"<a> <b> \"\" .\n":                             triple(iri("a"), iri("b"), literal("")),
		"<a> <b> \" .\\n<a> <b> <c> .\\n\" .\n":        triple(iri("a"), iri("b"), literal(" .\n<a> <b> <c> .\n")),
		"<a> <b> \"\\\"\\\\\\t\" .\n":                  triple(iri("a"), iri("b"), literal("\"\\\t")),
		"<a> <b> \"c d\"@en .\n":                       triple(iri("a"), iri("b"), worded("c d", "en")),
		"<a> <b> \"1\"^^<" + api.TypeInteger + "> .\n": triple(iri("a"), iri("b"), typed("1", api.TypeInteger)),
		"<.> <http://b/?x#y> <.> .\n":                  triple(iri("."), iri("http://b/?x#y"), iri(".")),
	} {
		if got, e := triples.Text(x); got != s || e != api.OK {
			t.Errorf("%+v: %q %d", x, got, e)
		}
		if l, n, e := triples.Read(s); !slices.Equal(l, []api.Triple{x}) || n != 0 || e != api.OK {
			t.Errorf("%q: %+v %d %d", s, l, n, e)
		}
	}
}

// wrongTriples are triples that are not right: by a wrong term, by a term that may not stand there, by None, at each place.
func wrongTriples() []api.Triple {
	a, x := iri("a"), variable("x")
	l := []api.Triple{{}, triple(literal("a"), a, a), triple(a, literal("a"), a), triple(a, blank("a"), a), triple(x, x, x)}
	for _, y := range append(wrongTerms(), x, api.Term{}) {
		l = append(l, triple(y, a, a), triple(a, y, a), triple(a, a, y))
	}
	return l
}

// P3.1: what is no right triple has no text, a pattern neither, and nothing is written that has one.
func TestTextOfWrong(t *testing.T) {
	x := triple(iri("a"), iri("b"), iri("c"))
	for _, w := range wrongTriples() {
		if s, e := triples.Text(w); s != "" || e != api.ErrForm {
			t.Errorf("%.200v: %.60q %d", w, s, e)
		}
		for _, l := range [][]api.Triple{{w}, {w, x, x}, {x, w, x}, {x, x, w}, {w, w}} {
			if s, e := triples.Write(l); s != "" || e != api.ErrForm {
				t.Errorf("%.200v: written %.60q %d", l, s, e)
			}
		}
	}
}

// numbered are n triples, no two alike.
func numbered(n int) []api.Triple {
	l := make([]api.Triple, n)
	for i := range l {
		l[i] = triple(iri("s"+strconv.Itoa(i)), iri("p"), literal(strconv.Itoa(i%7)))
	}
	return l
}

func plainWrite(l []api.Triple) string {
	var s strings.Builder
	for _, x := range l {
		s.WriteString(plainText(x))
	}
	return s.String()
}

// P3.1, P3.2: one behind the other, as they come, the same ones too; at most MaxTriples.
func TestWrite(t *testing.T) {
	x, y := triple(iri("b"), iri("b"), iri("b")), triple(iri("a"), iri("b"), literal("c"))
	for _, l := range [][]api.Triple{nil, {}, {x}, {x, y}, {y, x}, {x, x}, {x, y, x}, rightTriples(), numbered(api.MaxTriples - 1), numbered(api.MaxTriples), slices.Repeat([]api.Triple{x}, api.MaxTriples)} {
		s, e := triples.Write(l)
		if s != plainWrite(l) || e != api.OK {
			t.Errorf("%d: %.200q %d", len(l), s, e)
		}
		if back, n, e := triples.Read(s); !slices.Equal(back, l) || n != 0 || e != api.OK {
			t.Errorf("%.200q: %d triples, %d %d", s, len(back), n, e)
		}
	}
}

// P3.1: more than MaxTriples are too many, whatever they are.
func TestWriteTooMany(t *testing.T) {
	l := numbered(2 * api.MaxTriples)
	for _, n := range []int{api.MaxTriples + 1, api.MaxTriples + 2, 2 * api.MaxTriples} {
		if s, e := triples.Write(l[:n]); s != "" || e != api.ErrLong {
			t.Errorf("%d: %.60q %d", n, s, e)
		}
	}
	for _, at := range []int{0, 1, api.MaxTriples - 1, api.MaxTriples} {
		k := slices.Clone(l[:api.MaxTriples+1])
		k[at] = api.Triple{}
		if s, e := triples.Write(k); s != "" || e != api.ErrLong {
			t.Errorf("wrong one at %d: %.60q %d", at, s, e)
		}
		if s, e := triples.Write(k[:api.MaxTriples]); at < api.MaxTriples && (s != "" || e != api.ErrForm) {
			t.Errorf("wrong one at %d of MaxTriples: %.60q %d", at, s, e)
		}
	}
	if s, e := triples.Write(make([]api.Triple, api.MaxTriples+1)); s != "" || e != api.ErrLong {
		t.Errorf("%.60q %d", s, e)
	}
}

// Rule 3: what is handed in, and what lies behind its end, stays as it is.
func TestWriteChangesNothing(t *testing.T) {
	for n := range 10 {
		l := slices.Concat(numbered(8), wrongTriples()[:2])
		before := slices.Clone(l)
		triples.Write(l[:n])
		if !slices.Equal(l, before) {
			t.Errorf("%d: %+v", n, l)
		}
	}
}

// wrongLines are lines, each with its line feed, that are no right triple's text.
func wrongLines() []string {
	l := []string{
		"\n", " \n", ".\n", " .\n", "#\n", "# <a> <b> <c> .\n", "<a>\n", "<a> \n", "<a> .\n", "<a> <b>\n", "<a> <b> \n", "<a> <b> .\n", "<a> <b>  .\n", "<a> <b> <c>\n", "<a> <b> <c> \n",
		"<a> <b> <c>.\n", "<a> <b> <c> . \n", "<a> <b> <c> ..\n", "<a> <b> <c>  .\n", "<a> <b> <c> . .\n", "<a> <b> <c> ,\n", "<a> <b> <c> .\r\n", "<a> <b> <c>\t.\n",
		" <a> <b> <c> .\n", "<a>  <b> <c> .\n", "<a> <b>  <c> .\n", "<a>\t<b> <c> .\n", "<a> <b>\t<c> .\n", "<a><b> <c> .\n", "<a> <b><c> .\n", "<a> <b> <c> <d> .\n", "<a> <b> <c> <d>.\n", "<a> <b> <c> . <a> <b> <c> .\n",
		"\"a\" <b> <c> .\n", "?x <b> <c> .\n", "<a> ?x <c> .\n", "<a> <b> ?x .\n", "?x ?y ?z .\n", "<a> \"b\" <c> .\n", "<a> _:b <c> .\n",
		" <b> <c> .\n", "<a>  <c> .\n", "  .\n", "   .\n", "a b c .\n", "<> <b> <c> .\n", "<a> <b> <> .\n", "<a <b> <c> .\n", "<a> <b> <c .\n", "<a b> <b> <c> .\n", "<a> <b> <é> .\n", "<a> <b> <\xff> .\n",
		"_: <b> <c> .\n", "_:1 <b> <c> .\n", "_:a- <b> <c> .\n", "_:" + strings.Repeat("b", 33) + " <b> <c> .\n", "<a> <b> _:" + strings.Repeat("b", 33) + " .\n",
		"<a> <b> \" .\n", "<a> <b> \"c .\n", "<a> <b> c\" .\n", "<a> <b> \"c\\\" .\n", "<a> <b> \"\\c\" .\n", "<a> <b> \"\\r\" .\n", "<a> <b> \"c\td\" .\n", "<a> <b> \"c\"d\" .\n", "<a> <b> \"é\" .\n", "<a> <b> 'c' .\n",
		"<a> <b> \"c\"@ .\n", "<a> <b> \"c\"@EN .\n", "<a> <b> \"c\"@abcdefghi .\n", "<a> <b> \"c\"@en-us .\n", "<a> <b> \"c\" @en .\n", "<a> <b> \"c\"@en^^<t> .\n",
		"<a> <b> \"c\"^^ .\n", "<a> <b> \"c\"^^t .\n", "<a> <b> \"c\"^^<> .\n", "<a> <b> \"c\"^^<t .\n", "<a> <b> \"c\"^^<t t> .\n", "<a> <b> \"c\"^<t> .\n", "<a> <b> \"c\"^^ <t> .\n", "<a> <b> \"c\"^^<t>@en .\n",
		"<" + strings.Repeat("i", api.MaxText+1) + "> <b> <c> .\n", "<a> <b> \"" + strings.Repeat("l", api.MaxText+1) + "\" .\n", "<a> <b> \"\"^^<" + strings.Repeat("t", api.MaxText+1) + "> .\n",
		"\x00\n", "\xff\n", "\xe2\x82\n", "\ufeff<a> <b> <c> .\n", "<a> <b> <c> .\x00\n", "<a> <b> <c> .é\n",
	}
	return l
}

func checkWrong(t *testing.T, s string, line int) {
	t.Helper()
	if l, n, e := triples.Read(s); len(l) != 0 || n != line || e != api.ErrForm {
		t.Errorf("%.60q: %d triples, line %d %d; not line %d", s, len(l), n, e, line)
	}
}

// P3.2: the number of the first line that is wrong, with right and wrong ones ahead of it and behind it.
func TestReadWrongLines(t *testing.T) {
	right := "_:n <b> \"c\\n\" .\n"
	for _, w := range wrongLines() {
		open := strings.TrimSuffix(w, "\n")
		for ahead := range 4 {
			s := strings.Repeat(right, ahead)
			for _, behind := range []string{"", right, right + right, "\n", w, "x", w + right} {
				checkWrong(t, s+w+behind, ahead+1)
			}
			if open != "" {
				checkWrong(t, s+open, ahead+1)
			}
		}
	}
}

// P3.2: a text of none; the lack of the last line feed; a line feed too many.
func TestReadEnds(t *testing.T) {
	if l, n, e := triples.Read(""); len(l) != 0 || n != 0 || e != api.OK {
		t.Errorf("%v %d %d", l, n, e)
	}
	right := "<a> <b> <c> .\n"
	for lines := 1; lines < 5; lines++ {
		s := strings.Repeat(right, lines)
		if l, n, e := triples.Read(s); len(l) != lines || n != 0 || e != api.OK {
			t.Errorf("%q: %v %d %d", s, l, n, e)
		}
		for cut := 1; cut < len(right); cut++ {
			checkWrong(t, s[:len(s)-cut], lines)
			checkWrong(t, s+s[:len(right)-cut], lines+1)
		}
		checkWrong(t, s+"\n", lines+1)
		checkWrong(t, s+"\n\n", lines+1)
		checkWrong(t, s+"\n"+s, lines+1)
		checkWrong(t, "\n"+s, 1)
		checkWrong(t, s+" ", lines+1)
		checkWrong(t, s+"\n"+right[:5], lines+1)
	}
}

// P3.2: more than MaxTriples right lines are too many; a wrong one among them, wherever it stands, is what is told.
func TestReadTooMany(t *testing.T) {
	s := plainWrite(numbered(2 * api.MaxTriples))
	lines := strings.SplitAfter(s, "\n")
	for _, n := range []int{api.MaxTriples + 1, api.MaxTriples + 2, 2 * api.MaxTriples} {
		if l, at, e := triples.Read(strings.Join(lines[:n], "")); len(l) != 0 || at != 0 || e != api.ErrLong {
			t.Errorf("%d: %d triples, %d %d", n, len(l), at, e)
		}
	}
	for _, n := range []int{api.MaxTriples, api.MaxTriples + 1, api.MaxTriples + 2, 2 * api.MaxTriples} {
		for _, at := range []int{1, 2, api.MaxTriples - 1, api.MaxTriples, api.MaxTriples + 1, n} {
			if at > n {
				continue
			}
			for _, w := range []string{"\n", "<a> <b> .\n", "<a> <b> ?x .\n"} {
				checkWrong(t, strings.Join(lines[:at-1], "")+w+strings.Join(lines[at:n], ""), at)
			}
		}
		checkWrong(t, strings.Join(lines[:n], "")+"\n", n+1)
		checkWrong(t, strings.TrimSuffix(strings.Join(lines[:n], ""), "\n"), n)
	}
}

// shortLine is what a right triple's text is, with texts of terms that are not too long.
var shortLine = regexp.MustCompile(`^(<[!#-;=?-[\]_a-z~]+>|_:[A-Za-z][A-Za-z0-9_]{0,31}) <[!#-;=?-[\]_a-z~]+> (<[!#-;=?-[\]_a-z~]+>|_:[A-Za-z][A-Za-z0-9_]{0,31}|"([ !#-[\]-~]|\\["\\nt])*"(\^\^<[!#-;=?-[\]_a-z~]+>|@[a-z]{1,8})?) \.\n$`)

// plainRead tells how many lines s has, and the first one that is wrong.
func plainRead(s string) (int, int) {
	lines := strings.SplitAfter(s, "\n")
	if lines[len(lines)-1] == "" {
		lines = lines[:len(lines)-1]
	}
	for i, line := range lines {
		if !shortLine.MatchString(line) {
			return 0, i + 1
		}
	}
	return len(lines), 0
}

// near calls f with s, and with each text that has a byte less, a byte more, another byte, a piece less or a piece twice.
func near(s string, f func(string)) {
	f(s)
	for i := range s {
		for j := i + 1; j <= len(s); j++ {
			f(s[:i] + s[j:])
			f(s[:j] + s[i:])
		}
		for c := range 256 {
			b := string([]byte{byte(c)})
			f(s[:i] + b + s[i+1:])
			f(s[:i] + b + s[i:])
		}
	}
}

// P3.2, P3.3: of texts that are nearly right: whether they are, and which line is not; Write of Read is the text.
func TestReadNearlyRight(t *testing.T) {
	right := 0
	for _, s := range []string{
		"<a> <b> <c> .\n_:d1 <b> \"e f\" .\n<g> <h> _:i .\n",
		"<a> <b> \"\\\"\\n\"@en .\n<c> <d> \"<\"^^<t> .\n",
		"_:a <b.> _:a .\n_:a <b.> _:a .\n<c?> <d> \"\\\\\"@abcdefgh .\n",
	} {
		near(s, func(s string) {
			lines, at := plainRead(s)
			l, n, e := triples.Read(s)
			if at != 0 {
				if len(l) != 0 || n != at || e != api.ErrForm {
					t.Fatalf("%q: %v %d %d; not line %d", s, l, n, e, at)
				}
				return
			}
			right++
			if len(l) != lines || n != 0 || e != api.OK {
				t.Fatalf("%q: %v %d %d; not %d", s, l, n, e, lines)
			}
			if back, e := triples.Write(l); back != s || e != api.OK {
				t.Fatalf("%q: back %q %d", s, back, e)
			}
		})
	}
	if right < 5000 {
		t.Errorf("just %d right texts", right)
	}
}

// P3.3: there and back, of each right triple alone and of all together.
func TestThereAndBack(t *testing.T) {
	all := rightTriples()
	if len(all) < 100 {
		t.Fatalf("just %d triples", len(all))
	}
	for _, x := range all {
		s, e := triples.Text(x)
		if s != plainText(x) || e != api.OK {
			t.Fatalf("%.200v: %.200q %d", x, s, e)
		}
		if l, n, e := triples.Read(s); !slices.Equal(l, []api.Triple{x}) || n != 0 || e != api.OK {
			t.Fatalf("%.200q: %.200v %d %d", s, l, n, e)
		}
	}
	s, _ := triples.Write(all)
	l, n, e := triples.Read(s)
	if !slices.Equal(l, all) || n != 0 || e != api.OK {
		t.Errorf("%d triples, %d %d", len(l), n, e)
	}
}

// P3.4: texts one behind the other are the triples one behind the other.
func TestOneBehindTheOther(t *testing.T) {
	var all []api.Triple
	for _, x := range rightTriples() {
		if len(plainText(x)) < api.MaxText { // long ones would be copied again and again
			all = append(all, x)
		}
	}
	for i := range len(all) + 1 {
		a, b := all[:i], all[i:]
		s, _ := triples.Write(a)
		u, _ := triples.Write(b)
		if both, e := triples.Write(all); both != s+u || e != api.OK {
			t.Fatalf("%d: %d bytes, %d", i, len(both), e)
		}
		if l, n, e := triples.Read(s + u); !slices.Equal(l, all) || n != 0 || e != api.OK {
			t.Fatalf("%d: %d triples, %d %d", i, len(l), n, e)
		}
		if l, n, e := triples.Read(u + s); !slices.Equal(l, slices.Concat(b, a)) || n != 0 || e != api.OK {
			t.Fatalf("%d, the other way round: %d triples, %d %d", i, len(l), n, e)
		}
	}
}

// Rule 3: two answers share no memory.
func TestReadAnswersNewMemory(t *testing.T) {
	s := plainWrite(numbered(3))
	a, _, _ := triples.Read(s)
	b, _, _ := triples.Read(s)
	clear(a[:cap(a)])
	if !slices.Equal(b, numbered(3)) {
		t.Errorf("%+v", b)
	}
}

// P3.2: long texts that are no triples' end, too.
func TestReadLongTexts(t *testing.T) {
	for _, s := range []string{"<", "\"", "\\", "_:", "a", " ", ".", "<a> ", "<a> <b> \"", "?x", "\"\\", "\x00", "é"} {
		checkWrong(t, strings.Repeat(s, 1<<18), 1)
		checkWrong(t, "<a> <b> <c> .\n"+strings.Repeat(s, 1<<18), 2)
	}
	checkWrong(t, strings.Repeat("\n", 1<<20), 1)
}
