package formula_test

import (
	"maps"
	"math"
	"math/rand/v2"
	"slices"
	"strings"
	"testing"

	"legation/api"
	"legation/formula"
)

// checkReads holds what Parse answers of a text's words against a text and a number of words.
func checkReads(t *testing.T, s, want string, n int) {
	t.Helper()
	f, at, e := formula.Parse(words(t, s), 0)
	got, g := formula.Text(f)
	if got != want || at != n || e != api.OK || g != api.OK {
		t.Errorf("%.200q: %.200q %d %d %d; not %.200q %d", s, got, at, e, g, want, n)
	}
}

// checkNone holds that no formula begins a text.
func checkNone(t *testing.T, s string, want api.Errno) {
	t.Helper()
	if f, at, e := formula.Parse(words(t, s), 0); len(f) != 0 || at != 0 || e != want {
		t.Errorf("%.200q: %s %d %d", s, brief(f), at, e)
	}
}

// P6.2: what is simple, with all its fields.
func TestParseOfSimpleOnes(t *testing.T) {
	long := strings.Repeat("7", api.MaxText)
	for s, want := range map[string]api.Part{
		"?a":               asked("a"),
		"?TRUE":            asked("TRUE"),
		"<a>":              value(iri("a")),
		`"a"`:              value(literal("a")),
		`"a"@en`:           value(worded("a", "en")),
		`"a"^^<t>`:         value(typed("a", "t")),
		`"TRUE"`:           value(literal("TRUE")),
		"1.5":              value(typed("1.5", api.TypeDecimal)),
		"0":                digits("0"),
		"007":              digits("007"),
		"99999999999":      digits("99999999999"),
		long:               digits(long),
		"TRUE":             value(typed("true", api.TypeBoolean)),
		"FALSE":            value(typed("false", api.TypeBoolean)),
		"BOUND(?a)":        bound("a"),
		"BOUND ( ?BOUND )": bound("BOUND"),
	} {
		l := words(t, s)
		if f, n, e := formula.Parse(l, 0); !slices.Equal(f, []api.Part{want}) || n != len(l) || e != api.OK {
			t.Errorf("%.100q: %s %d %d", s, brief(f), n, e)
		}
		l = words(t, "("+s+")")
		if f, n, e := formula.Parse(l, 0); !slices.Equal(f, []api.Part{want}) || n != len(l) || e != api.OK {
			t.Errorf("(%.100q): %s %d %d", s, brief(f), n, e)
		}
	}
}

// P6.2: words of the kind of numbers, whatever their texts.
func TestParseOfNumbers(t *testing.T) {
	for _, s := range []string{"1", "", "x", "-1", "1.5", "(", "TRUE", "\"", "0x1", strings.Repeat("7", 4*api.MaxText)} {
		f, n, e := formula.Parse([]api.Token{number(s), sign("+"), number("2")}, 0)
		if !slices.Equal(f, []api.Part{digits(s), digits("2"), of(api.XAdd)}) || n != 3 || e != api.OK {
			t.Errorf("%.100q: %s %d %d", s, brief(f), n, e)
		}
	}
}

// P6.2: each function, with as many as it needs, and with others.
func TestParseOfFunctions(t *testing.T) {
	for word, kind := range functions {
		for n := range 20 {
			inside := make([]string, n)
			for i := range inside {
				inside[i] = "?x = 1 || ! ?y"
			}
			p := of(kind)
			if kind == api.XCoalesce {
				p.N = n
			}
			s := word + "(" + strings.Join(inside, ",") + ")"
			if n == 0 || plainNeeds(p) != n {
				checkNone(t, s, api.ErrForm)
				checkNone(t, s+" + 1", api.ErrForm)
				continue
			}
			var want []api.Part
			for range n {
				want = append(want, asked("x"), digits("1"), of(api.XEq), asked("y"), of(api.XNot), of(api.XOr))
			}
			l := words(t, s+" )")
			if f, at, e := formula.Parse(l, 0); !slices.Equal(f, append(want, p)) || at != len(l)-1 || e != api.OK {
				t.Errorf("%q: %+v %d %d", s, f, at, e)
			}
		}
		for _, s := range []string{word, word + " ?a", word + ")", word + "?a)", word + " 1", word + word + "(?a)"} {
			checkNone(t, s, api.ErrForm)
		}
		for _, s := range []string{strings.ToLower(word), word[:1] + strings.ToLower(word[1:]), word + "S", word[:len(word)-1], "X" + word} {
			checkNone(t, s+"(?a)", api.ErrForm)
			checkNone(t, s+"(?a,?b,?c)", api.ErrForm)
		}
	}
}

// P6.2: as much as can be is read, and what is not the formula's own stays.
func TestParseUpToOtherWords(t *testing.T) {
	for _, end := range []string{"", ")", ",", ".", "}", "{", "!", "?z", "<z>", `"z"`, "7", "1.5", "_:z", "AS ?z", "TRUE", "STR ( ?z )", "BOUND", "x", ") + 1", ", ?z", "AND ?z", "( ?z )", "! = ?z"} {
		for s, want := range map[string]string{
			"?a":                  "?a",
			"( ?a )":              "?a",
			"- ?a":                "- ?a",
			"?a = ?b":             "( ?a = ?b )",
			"?a + ?b * ?c":        "( ?a + ( ?b * ?c ) )",
			"?a && ?b":            "( ?a && ?b )",
			"BOUND ( ?a )":        "BOUND ( ?a )",
			"COALESCE ( ?a , 1 )": `COALESCE ( ?a , "1"` + integer + " )",
			"TRUE":                `"true"` + boolean,
		} {
			checkReads(t, s+" "+end, want, len(words(t, s)))
		}
	}
	for s, n := range map[string]int{
		"?a = ?b = ?c":            3,
		"?a = ?b <":               3,
		"?a < ?b >= ?c && ?d":     3,
		"?a + 1 = ?b * 2 != ?c":   7,
		"?a && ?b = ?c = ?d":      5,
		"?a = ?b && ?c = ?d > ?e": 7,
		"( ?a = ?b ) = ?c = ?d":   7,
		"! ?a = ?b = ?c":          4,
		"?a = ! ?b = ?c":          4,
		"?a = ( ?b = ?c ) = ?d":   7,
		"?a < ?b < ":              3,
		"?a ?b":                   1,
		"1 1":                     1,
		"TRUE FALSE":              1,
	} {
		f, at, e := formula.Parse(words(t, s), 0)
		if at != n || e != api.OK || formula.Check(f) != api.OK {
			t.Errorf("%q: %+v %d %d", s, f, at, e)
		}
		checkNone(t, "( "+s+" )", api.ErrForm) // in brackets all of it must be read
		checkNone(t, "STR ( "+s+" )", api.ErrForm)
	}
}

// P6.2: what no formula begins, and what lacks behind a sign, a bracket, a comma, a word.
func TestParseOfNone(t *testing.T) {
	for _, s := range []string{
		"", "(", ")", "( )", "(?a", "((?a)", "(?a ?b)", "(?a,?b)", "( , ?a )", ",", ".", "{", "}", "{ ?a }", "(?a}", "=", "= ?a", "+ ?a", "+1", "* ?a", "/", "&& ?a", "|| ?a", "<", ">= 1",
		"!", "-", "! )", "- +", "! !", "- - -", "! = ?a", "! ( )", "(! )", "- , 1", "! x",
		"?a +", "?a -", "?a *", "?a /", "?a =", "?a !=", "?a <", "?a >", "?a <=", "?a >=", "?a &&", "?a ||",
		"?a + )", "?a - *", "?a * /", "?a = =", "?a < = ?b", "?a && && ?b", "?a || || ?b", "?a + + ?b", "?a * * ?b", "?a && )", "?a || }", "?a = .", "?a = x", "?a + BOUND", "?a + _:b", "?a = ?b +", "?a = ?b && !", "?a = ?b && ?c = ?d + ( ?e",
		"?a + ( ?b", "?a + ( ?b + )", "?a * ( )", "( ?a + 1", "( ?a + 1 ,", "( ?a = 1 = 2 )",
		"x", "x ( ?a )", "true", "false", "True", "NOT ?a", "AS", "SELECT", "_:b", "( _:b )", "STR ( _:b )",
		"BOUND", "BOUND ?a", "BOUND (", "BOUND ( )", "BOUND ( ?a", "BOUND ( ?a ,", "BOUND ( ?a , ?b )", "BOUND ( ?a ?b )", "BOUND ( 1 )", "BOUND ( <a> )", "BOUND ( \"a\" )", "BOUND ( _:a )", "BOUND ( a )", "BOUND ( ( ?a ) )", "BOUND ( ?a + 1 )", "BOUND ( - ?a )", "BOUND ( BOUND ( ?a ) )", "bound ( ?a )",
		"STR (", "STR ( ?a", "STR ( ?a ,", "STR ( ?a , )", "STR ( , ?a )", "STR ( ?a = )", "STR ( ?a ?b )", "STR ( ?a + )", "STR { ?a }", "STR ( ( ?a )", "STR ( STR ?a )",
		"IF ( ?a )", "IF ( ?a , ?b )", "IF ( ?a , ?b ,", "IF ( ?a , ?b , )", "IF ( ?a , ?b , ?c", "IF ( ?a , ?b , ?c ,", "IF ( ?a , ?b , ?c , ?d )", "IF ( ?a ?b ?c )", "IF ( , , )", "IF ?a , ?b , ?c",
		"SAMETERM ( ?a )", "SAMETERM ( ?a , ?b , ?c )", "COALESCE", "COALESCE ( )", "COALESCE ( , )", "COALESCE ( ?a , )", "COALESCE ( ?a", "COALESCE ( ?a ?b )",
		"TRUE +", "- TRUE =", "1 -", "1.5 /", "<a> =", "\"a\" &&",
	} {
		checkNone(t, s, api.ErrForm)
		checkNone(t, "?x || "+s, api.ErrForm)
		checkNone(t, "( "+s, api.ErrForm)
		checkNone(t, "COALESCE ( ?x , "+s, api.ErrForm)
		checkNone(t, "! "+s, api.ErrForm)
	}
}

// P6.2: words by hand that are no formula's: of no kind, of another kind than their texts have, terms and names that are not right.
func TestParseOfOddWords(t *testing.T) {
	x, plus := variable("x"), sign("+")
	for _, w := range []api.Token{
		{}, {Text: "x"}, {Text: "("}, {Kind: -1, Text: "x"}, {Kind: 6, Text: "x"}, {Kind: math.MinInt, Text: "1"}, {Kind: math.MaxInt, Text: "1"}, {Kind: 1<<32 + api.TVar, Text: "x"},
		name(""), name("x"), name("("), name("?x"), name("+"), name("1"), name("-"), name("!"),
		sign(""), sign("x"), sign("TRUE"), sign("STR"), sign("BOUND"), sign("?x"), sign("1"), sign("&"), sign("( "), sign("!!"), sign("((")} {
		for _, l := range [][]api.Token{{w}, {w, x}, {x, plus, w}, {sign("("), w, sign(")")}, {sign("-"), w}, {name("STR"), sign("("), w, sign(")")}, {name("BOUND"), sign("("), w, sign(")")}} {
			if f, n, e := formula.Parse(l, 0); len(f) != 0 || n != 0 || e != api.ErrForm {
				t.Errorf("%+v: %+v %d %d", l, f, n, e)
			}
		}
		if f, n, e := formula.Parse([]api.Token{x, w, x}, 0); !slices.Equal(f, []api.Part{asked("x")}) || n != 1 || e != api.OK {
			t.Errorf("%+v: %+v %d %d", w, f, n, e)
		}
	}
	for _, l := range [][]api.Token{ // signs that are of another kind
		{sign("("), x, name(")")}, {name("("), x, sign(")")}, {sign("("), x, variable(")")}, {name("!"), x}, {x, plus, name("("), x, sign(")")},
		{name("STR"), name("("), x, sign(")")}, {name("STR"), sign("("), x, name(")")}, {name("SAMETERM"), sign("("), x, name(","), x, sign(")")},
		{name("BOUND"), name("("), x, sign(")")}, {name("BOUND"), sign("("), x, name(")")},
	} {
		if f, n, e := formula.Parse(l, 0); len(f) != 0 || n != 0 || e != api.ErrForm {
			t.Errorf("%+v: %+v %d %d", l, f, n, e)
		}
	}
	for _, y := range []api.Term{{}, {Kind: api.Var, Text: "x"}, {Kind: api.Blank, Text: "b"}, iri(""), iri("a b"), literal("\x00"), worded("a", "EN"), {Kind: 5, Text: "a"}, {Text: "a"}} {
		if f, n, e := formula.Parse([]api.Token{x, plus, stated(y)}, 0); len(f) != 0 || n != 0 || e != api.ErrForm {
			t.Errorf("%+v: %+v %d %d", y, f, n, e)
		}
	}
	for _, s := range []string{"", "1", "?x", "x y", strings.Repeat("v", 33)} {
		for _, l := range [][]api.Token{{variable(s)}, {name("BOUND"), sign("("), variable(s), sign(")")}} {
			if f, n, e := formula.Parse(l, 0); len(f) != 0 || n != 0 || e != api.ErrForm {
				t.Errorf("%+v: %+v %d %d", l, f, n, e)
			}
		}
	}
}

// P6.2: from each place on, and places that are none.
func TestParseFromPlaces(t *testing.T) {
	l := words(t, "?a + ?b ) BOUND ( ?c")
	for at, one := range []struct {
		want string
		n    int
		e    api.Errno
	}{
		{"( ?a + ?b )", 3, api.OK}, {"", 0, api.ErrForm}, {"?b", 3, api.OK}, {"", 0, api.ErrForm}, {"", 0, api.ErrForm}, {"", 0, api.ErrForm}, {"?c", 7, api.OK}, {"", 0, api.ErrForm},
	} {
		f, n, e := formula.Parse(l, at)
		if s, _ := formula.Text(f); s != one.want || n != one.n || e != one.e {
			t.Errorf("%d: %q %d %d", at, s, n, e)
		}
	}
	for _, k := range [][]api.Token{l, nil, {}, l[:1]} {
		for _, at := range []int{-1, len(k) + 1, math.MinInt, math.MaxInt, 1<<32 + 1, -1 << 32} {
			if f, n, e := formula.Parse(k, at); len(f) != 0 || n != 0 || e != api.ErrRange {
				t.Errorf("%d words from %d: %+v %d %d", len(k), at, f, n, e)
			}
		}
		if f, n, e := formula.Parse(k, len(k)); len(f) != 0 || n != 0 || e != api.ErrForm {
			t.Errorf("%d words: %+v %d %d", len(k), f, n, e)
		}
	}
}

// P6.2: MaxFormula parts and one more; ErrForm goes ahead of ErrLong.
func TestParseOfLongOnes(t *testing.T) {
	for _, one := range []struct {
		s    string
		n, m int // parts, words
	}{
		{strings.Repeat("! ", 255) + "?x", 256, 256},
		{strings.Repeat("- ", 256) + "?x", 257, 257},
		{strings.Repeat("! ", 4000) + "?x", 4001, 4001},
		{"?x" + strings.Repeat(" + ?x", 127), 255, 255},
		{"- ?x" + strings.Repeat(" + ?x", 127), 256, 256},
		{"?x" + strings.Repeat(" && ?x", 128), 257, 257},
		{"?x = ?x" + strings.Repeat(" || ! ?x", 84) + " || 1", 257, 345},
		{strings.Repeat("STR(", 255) + "?x" + strings.Repeat(")", 255), 256, 766},
		{strings.Repeat("STR(", 256) + "?x" + strings.Repeat(")", 256), 257, 769},
		{strings.Repeat("IF(?x,?x,", 85) + "?x" + strings.Repeat(")", 85), 256, 85*7 + 1},
		{strings.Repeat("IF(?x,?x,", 85) + "!?x" + strings.Repeat(")", 85), 257, 85*7 + 2},
		{strings.Repeat("(", 3000) + "?x" + strings.Repeat(")", 3000), 1, 6001},
	} {
		l := words(t, one.s+" )")
		f, at, e := formula.Parse(l, 0)
		if one.n <= api.MaxFormula && (len(f) != one.n || at != one.m || e != api.OK || formula.Check(f) != api.OK) {
			t.Errorf("%.100q: %d parts, %d %d", one.s, len(f), at, e)
		}
		if one.n > api.MaxFormula && (len(f) != 0 || at != 0 || e != api.ErrLong) {
			t.Errorf("%.100q: %d parts, %d %d", one.s, len(f), at, e)
		}
		for _, s := range []string{one.s + " &&", "STR(" + one.s, one.s + " * )", "IF(" + one.s + ")"} {
			checkNone(t, s, api.ErrForm)
		}
	}
	checkNone(t, strings.Repeat("! ", 1000), api.ErrForm)
	checkNone(t, strings.Repeat("(", 1000), api.ErrForm)
	checkNone(t, strings.Repeat("?x + ", 1000), api.ErrForm)
}

// P6.2: 2^16 brackets, signs and functions in one another.
func TestParseOfDeepOnes(t *testing.T) {
	n := 1 << 16
	for _, one := range []struct {
		open, close []api.Token
		e           api.Errno
	}{
		{[]api.Token{sign("(")}, []api.Token{sign(")")}, api.OK},
		{[]api.Token{sign("-")}, nil, api.ErrLong},
		{[]api.Token{sign("!"), sign("(")}, []api.Token{sign(")")}, api.ErrLong},
		{[]api.Token{name("COALESCE"), sign("(")}, []api.Token{sign(")")}, api.ErrLong},
		{[]api.Token{variable("y"), sign("||"), sign("(")}, []api.Token{sign(")")}, api.ErrLong},
	} {
		open, closing := slices.Repeat(one.open, n), slices.Repeat(one.close, n)
		l := slices.Concat(open, []api.Token{variable("x")}, closing)
		if f, at, e := formula.Parse(l, 0); e != one.e || e == api.OK && (!slices.Equal(f, []api.Part{asked("x")}) || at != len(l)) || e != api.OK && (len(f) != 0 || at != 0) {
			t.Errorf("%+v: %d parts, %d %d", one.open, len(f), at, e)
		}
		if f, at, e := formula.Parse(open, 0); len(f) != 0 || at != 0 || e != api.ErrForm {
			t.Errorf("%+v: %d parts, %d %d", one.open, len(f), at, e)
		}
	}
}

// P6.2: each short row of a few words, from its beginning on, as a plain reading of the chapter has it.
func TestParseOfEachShortRow(t *testing.T) {
	a := variable("a")
	for _, one := range []struct {
		few []api.Token
		n   int
	}{
		{[]api.Token{a, number("1"), stated(iri("a")), stated(api.Term{Kind: api.Blank, Text: "b"}), name("TRUE"), name("FALSE"), name("x"), sign("("), sign(")"), sign("-"), sign("!"), sign("="), sign(",")}, 4},
		{[]api.Token{a, sign("||"), sign("&&"), sign("="), sign("-"), sign("*")}, 6},
		{[]api.Token{a, sign("("), sign(")"), sign("<"), sign("+")}, 7},
		{[]api.Token{a, sign("!"), sign("!="), sign("+"), sign("/"), sign(">=")}, 6},
		{[]api.Token{a, sign("("), sign(")"), sign(","), name("STR")}, 7},
		{[]api.Token{a, sign("("), sign(")"), sign(","), name("SAMETERM")}, 7},
		{[]api.Token{a, sign("("), sign(")"), sign(","), name("IF")}, 8},
		{[]api.Token{a, sign("("), sign(")"), sign(","), name("COALESCE")}, 7},
		{[]api.Token{a, sign("("), sign(")"), sign("-"), name("BOUND")}, 7},
	} {
		formulas := 0
		every(one.few, one.n, func(l []api.Token) {
			f, at, e := formula.Parse(l, 0)
			if g, n, x := plainParse(l, 0); !slices.Equal(f, g) || at != n || e != x {
				t.Fatalf("%+v: %+v %d %d, not %+v %d %d", l, f, at, e, g, n, x)
			}
			if e == api.OK {
				formulas++
			}
		})
		if formulas < 100 {
			t.Errorf("%+v: just %d formulas", one.few, formulas)
		}
	}
}

// P6.2: long rows of any words, from each place on, likewise.
func TestParseOfLongRows(t *testing.T) {
	r := rand.New(rand.NewPCG(6, 3))
	few := words(t, `?a ?a ?b ?c 1 2 1.5 <a> "b" "c"@en _:d TRUE FALSE x ( ( ( ) ) ) , + - * / ! = != < > <= >= && ||`)
	for _, s := range []string{"STR (", "LANG (", "DATATYPE (", "ISIRI (", "ISLITERAL (", "ISBLANK (", "SAMETERM ( ?a ,", "IF ( ?a ,", "COALESCE (", "BOUND ( ?a )", "BOUND"} {
		few = append(few, words(t, s)...)
	}
	for range 3000 {
		l := make([]api.Token, 40)
		for i := range l {
			l[i] = few[r.IntN(len(few))]
		}
		checkEachPlace(t, l)
	}
	for i := range 300 { // a formula's words, of which one is another
		l := words(t, grown(r, 3+i%50).text(t))
		l[r.IntN(len(l))] = few[r.IntN(len(few))]
		checkEachPlace(t, l)
	}
}

func checkEachPlace(t *testing.T, l []api.Token) {
	t.Helper()
	for at := range len(l) + 1 {
		f, n, e := formula.Parse(l, at)
		if g, m, x := plainParse(l, at); !slices.Equal(f, g) || n != m || e != x {
			t.Fatalf("%+v from %d: %+v %d %d, not %+v %d %d", l, at, f, n, e, g, m, x)
		}
	}
}

// P6.3: what is parsed of a formula's text's words is the formula, and all words are its own.
func TestThereAndBack(t *testing.T) {
	back := func(f []api.Part) {
		t.Helper()
		s, e := formula.Text(f)
		if e != api.OK {
			t.Fatalf("%+v: %d", f, e)
		}
		l := words(t, s)
		if g, n, e := formula.Parse(l, 0); !slices.Equal(g, f) || n != len(l) || e != api.OK {
			t.Fatalf("%q: %+v %d %d, not %+v", s, g, n, e, f)
		}
	}
	for _, p := range leaves() {
		back([]api.Part{p})
		for _, q := range inner() {
			back(append(row(plainNeeds(q), p), q))
		}
	}
	for _, q := range inner() {
		for _, r := range inner() { // q in r, at each place of those that r needs
			n, m := plainNeeds(q), plainNeeds(r)
			for i := range m {
				back(slices.Concat(row(i, digits("1")), row(n, asked("x")), []api.Part{q}, row(m-i-1, bound("z")), []api.Part{r}))
			}
		}
	}
	back(nots(api.MaxFormula))
	r := rand.New(rand.NewPCG(6, 4))
	for i := range 1000 {
		back(grown(r, 1+i%api.MaxFormula).parts())
	}
}

// P6.4: each two signs: the one that binds closer, or the one ahead, is gathered first; a comparison takes no further one.
func TestBinding(t *testing.T) {
	for i, l := range signs {
		for one := range l {
			checkReads(t, "?a "+one+" ?b", "( ?a "+one+" ?b )", 3)
			checkReads(t, "! ?a "+one+" - ?b", "( ! ?a "+one+" - ?b )", 5)
			checkReads(t, "- STR ( ?a ) "+one+" ?b", "( - STR ( ?a ) "+one+" ?b )", 7)
			for j, k := range signs {
				for other := range k {
					s := "?a " + one + " ?b " + other + " ?c"
					left, right := "( ( ?a "+one+" ?b ) "+other+" ?c )", "( ?a "+one+" ( ?b "+other+" ?c ) )"
					switch {
					case i == 2 && j == 2:
						checkReads(t, s, "( ?a "+one+" ?b )", 3)
					case i < j:
						checkReads(t, s, right, 5)
					default:
						checkReads(t, s, left, 5)
					}
					checkReads(t, "( ?a "+one+" ?b ) "+other+" ?c", left, 7)
					checkReads(t, "?a "+one+" ( ?b "+other+" ?c )", right, 7)
				}
			}
		}
	}
	checkReads(t, "?a || ?b && ?c = ?d + ?e * - ?f", "( ?a || ( ?b && ( ?c = ( ?d + ( ?e * - ?f ) ) ) ) )", 12)
	checkReads(t, "! ?a * ?b + ?c = ?d && ?e || ?f", "( ( ( ( ( ! ?a * ?b ) + ?c ) = ?d ) && ?e ) || ?f )", 12)
	checkReads(t, "?a * ?b + ?c * ?d < ?e / ?f - ?g && ?h || ?i && ?j", "( ( ( ( ( ?a * ?b ) + ( ?c * ?d ) ) < ( ( ?e / ?f ) - ?g ) ) && ?h ) || ( ?i && ?j ) )", 19)
}

// P6.4: chains of each sign, and of those that bind alike, from the left.
func TestChains(t *testing.T) {
	for i, l := range signs {
		if i == 2 {
			continue
		}
		some := slices.Sorted(maps.Keys(l))
		for _, one := range some {
			for n := 2; n <= 100; n += 7 {
				checkReads(t, "?a"+strings.Repeat(" "+one+" ?b", n), strings.Repeat("( ", n)+"?a"+strings.Repeat(" "+one+" ?b )", n), 2*n+1)
			}
			for _, other := range some {
				checkReads(t, "?a "+one+" ?b "+other+" ?c "+one+" ?d", "( ( ( ?a "+one+" ?b ) "+other+" ?c ) "+one+" ?d )", 7)
			}
		}
	}
}

// P6.2: words stay as they are, and what is answered is new.
func TestWordsUntouched(t *testing.T) {
	l := words(t, "IF ( ?a = 1 , STR ( ?b ) , - 1.5 ) && BOUND ( ?c ) || TRUE")
	room := append(slices.Clone(l), sign("+"), number("2"), sign("+"), number("3"))
	was := slices.Clone(room)
	f, n, e := formula.Parse(room[:len(l)], 0)
	if n != len(l) || e != api.OK || !slices.Equal(room, was) {
		t.Fatalf("%d %d: %+v; not %+v", n, e, room, was)
	}
	want := slices.Clone(f)
	g, _, _ := formula.Parse(room[:len(l)], 0)
	clear(g)
	if !slices.Equal(f, want) {
		t.Errorf("%+v; not %+v", f, want)
	}
	clear(room)
	if !slices.Equal(f, want) {
		t.Errorf("%+v; not %+v", f, want)
	}
}
