package eval_test

import (
	"math/rand/v2"
	"slices"
	"strconv"
	"strings"
	"testing"

	"legation/api"
	"legation/eval"
	"legation/formula"
	"legation/term"
)

// aRow tells variables and a row of them, of each kind of term.
func aRow() ([]string, []api.Term) {
	return []string{"x", "none", "i", "b", "s", "e", "l", "w", "yes", "no", "d", "t", "odd"},
		[]api.Term{integer("2"), {}, iri("a"), blank("b"), literal("s"), literal(""), worded("s", "en"), wording("s"), boolean("true"), boolean("false"), decimal("1.50"), typed("a", "t"), integer("x")}
}

// meant tells the term that a text stands for: TRUE, FALSE, a number, or a term's text; none for an error.
func meant(t *testing.T, s string) (api.Term, bool) {
	t.Helper()
	switch {
	case s == "":
		return api.Term{}, false
	case s == "TRUE" || s == "FALSE":
		return boolean(strings.ToLower(s)), true
	case strings.ContainsAny(s[:1], "-0123456789"):
		if strings.Contains(s, ".") {
			return decimal(s), true
		}
		return integer(s), true
	}
	x, e := term.Read(strings.ReplaceAll(s, "^^string", "^^<"+api.TypeString+">"))
	if e != api.OK {
		t.Fatalf("%q: %d", s, e)
	}
	return x, true
}

func checkTexts(t *testing.T, l map[string]string) {
	t.Helper()
	vars, row := aRow()
	for s, w := range l {
		want, ok := meant(t, w)
		checkComes(t, read(t, s), vars, row, want, ok)
	}
}

// P10.2: each kind of part, the chapter's examples among them.
func TestEval(t *testing.T) {
	checkTexts(t, map[string]string{
		"?x + 1": "3", "?x = 2 || TRUE": "TRUE", "?none = 1 || TRUE": "TRUE", "?none = 1 && TRUE": "", "?none = 1 && FALSE": "FALSE",
		"<a>": "<a>", "1": "1", "007": "007", "1.50": "1.50", `"a"@en`: `"a"@en`, `"a"^^<t>`: `"a"^^<t>`, "TRUE": "TRUE", `""`: `""`, `"s"^^string`: `"s"^^string`,
		"?x": "2", "?none": "", "?missing": "", "?X": "", "?i": "<a>", "?b": "_:b", "?s": `"s"`, "?l": `"s"@en`, "?d": "1.50", "?t": `"a"^^<t>`,
		"BOUND(?x)": "TRUE", "BOUND(?none)": "FALSE", "BOUND(?missing)": "FALSE", "BOUND(?b)": "TRUE", "BOUND(?e)": "TRUE", "BOUND(?no)": "TRUE", "! BOUND(?none)": "TRUE",
		"SAMETERM(2,?x)": "TRUE", "SAMETERM(2.0,?x)": "FALSE", "SAMETERM(?x,?i)": "FALSE", "SAMETERM(?l,?s)": "FALSE", "SAMETERM(?w,?s)": "FALSE", "SAMETERM(?b,?b)": "TRUE", "SAMETERM(?t,?t)": "TRUE", "SAMETERM(?odd,?odd)": "TRUE", "SAMETERM(?none,?none)": "", "SAMETERM(?none,1)": "", "SAMETERM(1,?missing)": "",
		"( ?x + ?d ) * 2 = 7 && ! BOUND(?none)": "TRUE", "STR(?x + 1)": `"3"`, "DATATYPE(?x + ?d)": "<" + api.TypeDecimal + ">", "ISLITERAL(?x = 2)": "TRUE", "- ?x * - ?d - - 1": "4.0", "IF(COALESCE(?none,FALSE),1,IF(BOUND(?x),?x / ?none,2))": "", "COALESCE(?x / 0,IF(?none,1,2),- ?s,LANG(?l))": `"en"`,
	})
}

// P10.2: what is reckoned, at its bounds and of what is no number.
func TestReckoned(t *testing.T) {
	const most, least = `"999999999"^^integer`, `"-999999999"^^integer`
	l := map[string]string{
		"1 + 2": "3", "1 - 2": "-1", "2 * 3": "6", "6 / 3": "2.0", "1 / 3": "0.3333", "2 / 3": "0.6666", "0 / 5": "0.0", "- 2 / 3": "-0.6666", "?d + 1": "2.5", "?d * ?d": "2.25", "?d - ?d": "0.0", "?d / ?d": "1.0", "?x * 1.0": "2.0", "0.0001 * 0.1": "0.0",
		most + " + 0": "999999999", most + " + 1": "", most + " - 1": "999999998", most + " - " + `"-1"^^integer`: "", least + " - 1": "", least + " + 1": "-999999998", least + " + " + `"-1"^^integer`: "", most + " + " + least: "0", most + " * 1": "999999999", most + " * 2": "", most + " * " + most: "", most + " / 1": "999999999.0", most + " / 0.1": "", "99999.9999 + 0.0001": "100000.0", "99999.9999 + 99999.9999": "", most + " + 0.0001": "",
		"1 / 0": "", "1 / 0.0": "", "0 / 0": "", "?x / ( 1 - 1 )": "", "0 * 1": "0", "- " + most: "-999999999", "- " + least: "999999999", "- 0": "0", "- 0.0": "0.0", "- 1.50": "-1.5", "- - 007": "7", "- ?d": "-1.5",
		`"+01"^^integer + 0`: "1", `"-0"^^integer + 0`: "0", `".5"^^decimal + 0`: "0.5", `"1"^^decimal + 0`: "", `"1.0"^^integer + 0`: "", `"1000000000"^^integer - 1`: "", `"x"^^integer * 0`: "",
	}
	for _, s := range []string{"?i", "?b", "?s", "?e", "?l", "?w", "?yes", "?no", "?t", "?odd", "?none", "?missing", `"1"`, `"1"^^string`, `"1"@en`, `"1"^^<t>`, "TRUE", "<1>"} {
		for _, form := range []string{"# + 1", "1 + #", "# - 1", "1 - #", "# * 0", "0 * #", "# / 1", "1 / #", "- #", "# + #", "# - #", "# / #"} {
			l[strings.ReplaceAll(form, "#", s)] = ""
		}
	}
	checkTexts(t, l)
}

// P10.2: STR, LANG, DATATYPE and what asks for a kind, of each kind of term.
func TestOfOne(t *testing.T) {
	for _, one := range []struct {
		of                        string
		str, lang, kind           string
		isIri, isLiteral, isBlank string
	}{
		{"?i", `"a"`, "", "", "TRUE", "FALSE", "FALSE"},
		{"<" + api.TypeString + ">", `"` + api.TypeString + `"`, "", "", "TRUE", "FALSE", "FALSE"},
		{"?b", "", "", "", "FALSE", "FALSE", "TRUE"},
		{"?s", `"s"`, `""`, "<" + api.TypeString + ">", "FALSE", "TRUE", "FALSE"},
		{"?e", `""`, `""`, "<" + api.TypeString + ">", "FALSE", "TRUE", "FALSE"},
		{"?l", `"s"`, `"en"`, "", "FALSE", "TRUE", "FALSE"},
		{`""@abcdefgh`, `""`, `"abcdefgh"`, "", "FALSE", "TRUE", "FALSE"},
		{"?w", `"s"`, `""`, "<" + api.TypeString + ">", "FALSE", "TRUE", "FALSE"},
		{"?yes", `"true"`, `""`, "<" + api.TypeBoolean + ">", "FALSE", "TRUE", "FALSE"},
		{"?x", `"2"`, `""`, "<" + api.TypeInteger + ">", "FALSE", "TRUE", "FALSE"},
		{"007", `"007"`, `""`, "<" + api.TypeInteger + ">", "FALSE", "TRUE", "FALSE"},
		{"?d", `"1.50"`, `""`, "<" + api.TypeDecimal + ">", "FALSE", "TRUE", "FALSE"},
		{"?t", `"a"`, `""`, "<t>", "FALSE", "TRUE", "FALSE"},
		{"?odd", `"x"`, `""`, "<" + api.TypeInteger + ">", "FALSE", "TRUE", "FALSE"},
		{"?none", "", "", "", "", "", ""},
		{"?missing", "", "", "", "", "", ""},
		{"1 / 0", "", "", "", "", "", ""},
	} {
		checkTexts(t, map[string]string{
			"STR(" + one.of + ")": one.str, "LANG(" + one.of + ")": one.lang, "DATATYPE(" + one.of + ")": one.kind,
			"ISIRI(" + one.of + ")": one.isIri, "ISLITERAL(" + one.of + ")": one.isLiteral, "ISBLANK(" + one.of + ")": one.isBlank,
		})
	}
	long := iri(strings.Repeat("i", api.MaxText))
	checkComes(t, []api.Part{asked("x"), of(api.XStr)}, []string{"x"}, []api.Term{long}, literal(long.Text), true)
	checkComes(t, []api.Part{asked("x"), of(api.XType)}, []string{"x"}, []api.Term{typed("a", long.Text)}, long, true)
	vars, v := []string{"x"}, api.Term{Kind: api.Var, Text: "v"} // a right term that no table has
	for kind, want := range map[int]string{api.XLang: "", api.XType: "", api.XNot: "", api.XNeg: "", api.XIsIri: "FALSE", api.XIsLit: "FALSE", api.XIsBlank: "FALSE"} {
		x, ok := meant(t, want)
		checkComes(t, []api.Part{asked("x"), of(kind)}, vars, []api.Term{v}, x, ok)
	}
	checkComes(t, []api.Part{asked("x")}, vars, []api.Term{v}, v, true)
}

// P10.2: IF, whose other one may be an error.
func TestIf(t *testing.T) {
	vars, row := aRow()
	wants := map[string]string{"true": "<then>", "false": "<else>", "error": ""}
	for truth, l := range conditions() {
		for _, s := range l {
			s = strings.ReplaceAll(s, "?there", "?none")
			want, ok := meant(t, wants[truth])
			checkComes(t, read(t, "IF("+s+",<then>,<else>)"), vars, row, want, ok)
			checkComes(t, read(t, "IF("+s+",<then>,?none)"), vars, row, want, truth == "true")
			checkComes(t, read(t, "IF("+s+",1 / 0,<else>)"), vars, row, want, truth == "false")
			checkComes(t, read(t, "IF("+s+",1 / 0,?none)"), vars, row, want, false)
		}
	}
	checkTexts(t, map[string]string{"IF(?yes,?b,?i)": "_:b", "IF(?no,?b,?l)": `"s"@en`, "IF(?e,1,2)": "2", "IF(?d,1,2)": "1", "IF(?i,1,2)": "", "IF(?odd,1,1)": "", "IF(IF(?yes,?no,?yes),1,IF(?s,2,3))": "2", "! IF(?yes,?i,1)": ""})
}

// P10.2: COALESCE of one to sixteen, with errors ahead, and of errors alone.
func TestCoalesce(t *testing.T) {
	checkTexts(t, map[string]string{
		"COALESCE(?x)": "2", "COALESCE(?none)": "", "COALESCE(?missing,?none)": "", "COALESCE(?x,?i)": "2", "COALESCE(?none,?i)": "<a>", "COALESCE(1 / 0,?none,! ?i,?b,?x)": "_:b", "COALESCE(?no,?yes)": "FALSE", "COALESCE(?e,1)": `""`, "COALESCE(?odd,1)": `"x"^^<` + api.TypeInteger + ">", "COALESCE(?x / 0)": "",
	})
	vars, row := aRow()
	for n := 1; n <= 16; n++ {
		for at := range n + 1 { // errors ahead of that place, terms from it on
			var f []api.Part
			for i := range n {
				if i < at {
					f = append(f, asked("none"))
				} else {
					f = append(f, value(integer(strconv.Itoa(i))))
				}
			}
			checkComes(t, append(f, coalesced(n)), vars, row, integer(strconv.Itoa(at)), at < n)
			checkComes(t, slices.Concat([]api.Part{value(iri("first"))}, f, []api.Part{coalesced(n), of(api.XSame)}), vars, row, boolean("false"), at < n)
		}
	}
}

// P10.2: which variables are bound: by the first one of a name, where vars and the row reach.
func TestRows(t *testing.T) {
	one, two := integer("1"), integer("2")
	for _, c := range []struct {
		vars []string
		row  []api.Term
		want api.Term // of x
	}{
		{nil, nil, api.Term{}}, {[]string{"x"}, nil, api.Term{}}, {nil, []api.Term{one}, api.Term{}}, {[]string{}, []api.Term{}, api.Term{}},
		{[]string{"x"}, []api.Term{one}, one}, {[]string{"y"}, []api.Term{one}, api.Term{}}, {[]string{"x"}, []api.Term{{}}, api.Term{}}, {[]string{""}, []api.Term{one}, api.Term{}}, {[]string{"X", "xx", "?x"}, []api.Term{one, one, one}, api.Term{}},
		{[]string{"y", "x"}, []api.Term{one}, api.Term{}}, {[]string{"x", "y"}, []api.Term{one}, one}, {[]string{"x"}, []api.Term{one, two}, one}, {[]string{"y", "z", "x"}, []api.Term{one, two}, api.Term{}}, {[]string{"y", "x", "z"}, []api.Term{one, two}, two},
		{[]string{"x", "x"}, []api.Term{one, two}, one}, {[]string{"x", "x"}, []api.Term{two, one}, two}, {[]string{"x", "x"}, []api.Term{{}, one}, api.Term{}}, {[]string{"x", "x"}, []api.Term{one, {}}, one}, {[]string{"x", "x"}, []api.Term{one}, one}, {[]string{"y", "x", "x"}, []api.Term{one}, api.Term{}}, {[]string{"y", "x", "y", "x"}, []api.Term{one, {}, two, two}, api.Term{}}, {[]string{"y", "y", "x"}, []api.Term{one, one, two}, two},
	} {
		is := c.want != (api.Term{})
		checkComes(t, []api.Part{asked("x")}, c.vars, c.row, c.want, is)
		checkComes(t, []api.Part{bound("x")}, c.vars, c.row, plainTruth(is), true)
		checkComes(t, read(t, "BOUND(?x) && ?x > 0"), c.vars, c.row, plainTruth(is), true)
	}
	var vars []string
	var row []api.Term
	for i := range 1000 { // more than a table may have
		vars, row = append(vars, "v"+strconv.Itoa(i)), append(row, integer(strconv.Itoa(i)))
	}
	for i, s := range vars {
		checkComes(t, []api.Part{asked(s)}, vars, row, row[i], true)
		checkComes(t, []api.Part{asked(s)}, vars, row[:i], api.Term{}, false)
		checkComes(t, []api.Part{bound(s)}, vars[:i], row, boolean("false"), true)
	}
}

// nots tells a formula of n parts: true, and a ! for each further one.
func nots(n int) []api.Part {
	return append([]api.Part{value(boolean("true"))}, slices.Repeat([]api.Part{of(api.XNot)}, n-1)...)
}

// P10.2: what is no formula, and formulas as long as may be, and longer.
func TestWrongFormulas(t *testing.T) {
	x := asked("x")
	for _, f := range [][]api.Part{
		nil, {}, {of(api.XNot)}, {x, of(api.XAnd)}, {x, x}, {x, x, x, of(api.XAnd)}, {of(api.XNot), x}, {x, of(0)}, {x, of(27)}, {of(-1)}, {x, coalesced(0)}, {x, coalesced(2)}, {x, coalesced(-1)}, append(slices.Repeat([]api.Part{x}, 17), coalesced(17)), {x, x, of(api.XIf)},
		{asked("")}, {asked("?x")}, {bound("")}, {value(api.Term{})}, {value(blank("b"))}, {value(api.Term{Kind: api.Var, Text: "x"})}, {value(iri(""))}, {value(literal("é"))}, {value(typed("1", "t t"))}, {{Kind: api.XVar, Name: "x", N: 1}}, {{Kind: api.XTerm, Term: integer("1"), Name: "x"}}, {x, {Kind: api.XNot, Name: "x"}}, {x, {Kind: api.XStr, Term: iri("a")}},
		slices.Repeat([]api.Part{x}, api.MaxFormula),
	} {
		checkRefused(t, f, api.ErrForm)
	}
	for n := 1; n <= api.MaxFormula; n++ {
		checkComes(t, nots(n), nil, nil, plainTruth(n%2 == 1), true)
	}
	for _, n := range []int{api.MaxFormula + 1, api.MaxFormula + 2, 1 << 16} {
		checkRefused(t, nots(n), api.ErrLong)
		checkRefused(t, make([]api.Part, n), api.ErrLong)
	}
}

// P10.2: formulas of which many results wait at once.
func TestDeep(t *testing.T) {
	for n := 1; n <= api.MaxFormula/2; n++ {
		var f []api.Part
		want := 0
		for i := range n {
			f = append(f, value(integer(strconv.Itoa(i*i+1))))
			want += (i*i + 1) * (1 - 2*(i%2)) // a - ( b - ( c - .. ) ): a - b + c - ..
		}
		f = append(f, slices.Repeat([]api.Part{of(api.XSub)}, n-1)...)
		checkComes(t, f, nil, nil, integer(strconv.Itoa(want)), true)
	}
	var f []api.Part
	for i := range 15 * 16 {
		f = append(f, asked("v"+strconv.Itoa(i)))
	}
	f = append(append(f, slices.Repeat([]api.Part{coalesced(16)}, 15)...), coalesced(15)) // each takes what the one ahead of it came to, as its last one
	if len(f) != api.MaxFormula {
		t.Fatalf("%d parts", len(f))
	}
	for i := range 15 * 16 {
		s := "v" + strconv.Itoa(i)
		checkComes(t, f, []string{"v239", s}, []api.Term{iri("last"), iri(s)}, iri(map[bool]string{true: "last", false: s}[i == 239]), true)
		checkComes(t, f, []string{s}, []api.Term{{}}, api.Term{}, false)
	}
}

// P10.2: grown formulas, held against the chapter's words.
func TestGrown(t *testing.T) {
	r := rand.New(rand.NewPCG(10, 1))
	names := []string{"x", "y", "z"}
	leaves, terms := someLeaves(names), someTerms()
	count, errors := map[api.Term]int{}, 0
	for i := range 60000 {
		n := grown(r, 1+i%60, leaves)
		row := []api.Term{terms[r.IntN(len(terms))], terms[r.IntN(len(terms))], {}}
		x, ok := checkTree(t, n, names, row)
		count[x]++
		if !ok {
			errors++
		}
	}
	if errors > 50000 || count[boolean("true")] < 3000 || count[boolean("false")] < 3000 || len(count) < 120 {
		t.Fatalf("%d errors, %d and %d truths, %d terms", errors, count[boolean("true")], count[boolean("false")], len(count))
	}
}

// P10.4: what a formula comes to hangs on its own variables alone, wherever they stand and whatever others are bound to.
func TestOtherVariables(t *testing.T) {
	r := rand.New(rand.NewPCG(10, 2))
	leaves, terms := someLeaves([]string{"x", "y"}), append(someTerms(), api.Term{})
	for range 5000 {
		f := grown(r, 1+r.IntN(40), leaves).parts()
		bindings := map[string]api.Term{"x": terms[r.IntN(len(terms))], "y": terms[r.IntN(len(terms))]}
		want, e := eval.Eval(f, []string{"x", "y"}, []api.Term{bindings["x"], bindings["y"]})
		holds, _ := eval.Holds(f, []string{"x", "y"}, []api.Term{bindings["x"], bindings["y"]})
		vars := []string{"x", "y", "z", "X", "xy", "a1"}
		r.Shuffle(len(vars), func(i, j int) { vars[i], vars[j] = vars[j], vars[i] })
		var row []api.Term
		for _, s := range vars {
			x, own := bindings[s]
			if !own {
				x = terms[r.IntN(len(terms))]
			}
			row = append(row, x)
		}
		if x, d := eval.Eval(f, vars, row); x != want || d != e {
			t.Fatalf("%s with %v %s: %s %d; not %s %d", written(f), brief(vars), brief(row), brief(x), d, brief(want), e)
		}
		if x, d := eval.Holds(f, vars, row); x != holds || d != api.OK {
			t.Fatalf("%s with %v %s: holds %v %d", written(f), brief(vars), brief(row), x, d)
		}
	}
}

// P10.1, P10.2: terms that are not right make no panic; beside an error there is nothing.
func TestOddTerms(t *testing.T) {
	l := slices.Concat(oddTerms(), []api.Term{iri("a"), literal("a"), integer("1"), boolean("true"), {}})
	for _, x := range l {
		if is, e := eval.Truth(x); is && e != api.OK {
			t.Fatalf("%s: %v %d", brief(x), is, e)
		}
		for _, y := range l {
			if n, e := eval.Compare(x, y); n != 0 && e != api.OK {
				t.Fatalf("%s %s: %d %d", brief(x), brief(y), n, e)
			}
			for kind := api.XVar; kind <= api.XCoalesce; kind++ {
				p := of(kind)
				switch kind {
				case api.XVar, api.XBound:
					p.Name = "x"
				case api.XCoalesce:
					p.N = 2
				}
				f := append([]api.Part{asked("y"), asked("x"), asked("y")}[:formula.Needs(p)], p)
				z, e := eval.Eval(f, []string{"x", "y"}, []api.Term{x, y})
				is, d := eval.Holds(f, []string{"x", "y"}, []api.Term{x, y})
				if e != api.OK && z != (api.Term{}) || d != api.OK && is {
					t.Fatalf("%s of %s %s: %s %d, %v %d", written(f), brief(x), brief(y), brief(z), e, is, d)
				}
			}
		}
	}
}

// P10.2: what is handed in is as it was, also behind its lists' ends, and the same is told again.
func TestUntouched(t *testing.T) {
	r := rand.New(rand.NewPCG(10, 3))
	leaves, terms := someLeaves([]string{"x", "y"}), someTerms()
	for range 3000 {
		f := append(grown(r, 1+r.IntN(60), leaves).parts(), of(-7), asked("room"))
		vars := []string{"x", "y", "room", "z"}
		row := []api.Term{terms[r.IntN(len(terms))], terms[r.IntN(len(terms))], iri("room"), integer("1")}
		wasF, wasVars, wasRow := slices.Clone(f), slices.Clone(vars), slices.Clone(row)
		n := len(f) - 2
		first, e := eval.Eval(f[:n], vars[:2], row[:2])
		holds, _ := eval.Holds(f[:n], vars[:2], row[:2])
		again, d := eval.Eval(f[:n], vars[:2], row[:2])
		held, _ := eval.Holds(f[:n], vars[:2], row[:2])
		if first != again || e != d || holds != held {
			t.Fatalf("%s: %s %d %v, then %s %d %v", written(f[:n]), brief(first), e, holds, brief(again), d, held)
		}
		if !slices.Equal(f, wasF) || !slices.Equal(vars, wasVars) || !slices.Equal(row, wasRow) {
			t.Fatalf("%s: changed", written(wasF[:n]))
		}
	}
}
