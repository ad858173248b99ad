package shape_test

import (
	"cmp"
	"math/rand/v2"
	"slices"
	"strconv"
	"strings"
	"testing"

	"legation/api"
	"legation/number"
	"legation/shape"
	"legation/term"
)

// risingNumbers are literals that are numbers, each ahead of those behind it: those of one amount stand in a row, by their texts.
func risingNumbers() []api.Term {
	var l []api.Term
	for _, s := range strings.Fields("-0999999999 -999999999 -999999999.0 -100000 -99999.9999 -10 -9.5 -9 -1.0001 -01 -1 -1.0 -0.5 -.0001 +.0 +0 +0.00 -.0 -0 .0 0 0.0 00 +.0001 .0001 0.0001 0.001 .5 0.5 0.50 0.9999 +1 +1.0 0001 001.0 01 1 1.0 1.00 1.0001 1.5 1.50 1.75 02 2 2.0 9 9.9999 10 10.0 11 99 100 99999.9999 100000 100000.5 0999999998 999999998 +999999999 0000999999999 999999999 999999999.0 999999999.0000") {
		if strings.Contains(s, ".") {
			l = append(l, decimal(s))
		} else {
			l = append(l, integer(s))
		}
	}
	return l
}

// risingOthers are literals that are no numbers, each ahead of those behind it: by their Text, then by Type, then by Lang.
func risingOthers() []api.Term {
	return []api.Term{
		literal(""), tagged("", "de"), tagged("", "en"), typed("", api.TypeBoolean), decimal(""), integer(""), typed("", api.TypeString), typed("", "t"),
		literal("\t"), literal("\t\t"), literal("\n"), literal(" "), literal("  "), integer(" 1"), literal(`"`), literal(`""`), decimal("+"), integer("+"), integer("++1"), integer("-"), integer("-1000000000"), decimal("."), decimal(".00001"), decimal("0.00001"), decimal("0.12345"), integer("00000000000001"),
		literal("1"), tagged("1", "de"), tagged("1", "en"), decimal("1"), typed("1", api.TypeString), typed("1", "t"), integer("1 "), decimal("1."), integer("1.0"), decimal("1.00000"),
		literal("10"), integer("10."), decimal("100000.0001"), integer("1000000000"), decimal("1000000000.0"), integer("12345678901234"), integer("1e3"),
		literal("2"), literal("9"), literal("A"), literal(`\`), literal(`\n`), literal("a"), tagged("a", "a"), tagged("a", "aa"), tagged("a", "b"), tagged("a", "en"), typed("a", "a"), typed("a", "b"), literal("a\tb"), literal("a\nb"), literal("a b"), literal("aa"), integer("abc"), literal("b"), typed("true", api.TypeBoolean), literal("~"), literal("~~"),
	}
}

// rising are right terms, each ahead of those behind it by the order of values.
func rising() []api.Term {
	l := []api.Term{{}}
	for _, s := range []string{"A", "B", "Z", "a", "a1", "aB", "a_", "aa", "b"} {
		l = append(l, blank(s))
	}
	for _, s := range []string{"!", "#", "1", "10", "9", "A", "a", "a/", "a1", "aa", "b", "http://t", "http://t/", "~"} {
		l = append(l, iri(s))
	}
	return slices.Concat(l, risingNumbers(), risingOthers(), []api.Term{variable("A"), variable("a"), variable("x"), variable("x1")})
}

// bindable are those of them that a table may have.
func bindable() []api.Term {
	return slices.DeleteFunc(rising(), func(x api.Term) bool { return x.Kind == api.Var })
}

// The tests' own reading of the order of values: where a term stands among those that rise.
type places map[api.Term]int

func placesOf(l []api.Term) places {
	p := places{}
	for i, x := range l {
		p[x] = i
	}
	return p
}

func (p places) compare(a, b api.Term) int { return cmp.Compare(p.place(a), p.place(b)) }

func (p places) place(x api.Term) int {
	i, is := p[x]
	if !is {
		panic("a term without a place: " + x.Text)
	}
	return i
}

// The terms that rise are right, each another one, and numbers just where they should be.
func TestRising(t *testing.T) {
	l := rising()
	if len(placesOf(l)) != len(l) {
		t.Error("a term stands twice")
	}
	for _, x := range l {
		if term.Check(x) != api.OK {
			t.Errorf("%v: not right", x)
		}
	}
	numbers := risingNumbers()
	for i, x := range numbers {
		if _, e := number.Of(x); e != api.OK {
			t.Errorf("%v: no number", x)
		}
		if i == 0 {
			continue
		}
		a, _ := number.Of(numbers[i-1])
		b, _ := number.Of(x)
		if n, e := number.Compare(a, b); n > 0 || e != api.OK {
			t.Errorf("%v is not less than %v", numbers[i-1], x)
		}
	}
	for _, x := range risingOthers() {
		if _, e := number.Of(x); e == api.OK {
			t.Errorf("%v: a number", x)
		}
	}
}

// P12.1: each two of the terms that rise, both ways round.
func TestCompareEachTwo(t *testing.T) {
	l := rising()
	for i, a := range l {
		for j, b := range l {
			if n := shape.Compare(a, b); n != cmp.Compare(i, j) {
				t.Errorf("%v and %v: %d; not %d", a, b, n, cmp.Compare(i, j))
			}
		}
	}
}

// P12.1: each two sorts, both ways round, and the chapter's example.
func TestCompareSorts(t *testing.T) {
	sorts := []string{"-", "_:z", "<a>", "9", `"1"`}
	for i, a := range sorts {
		for j, b := range sorts {
			if n := shape.Compare(cell(t, a), cell(t, b)); n != cmp.Compare(i, j) {
				t.Errorf("%s and %s: %d", a, b, n)
			}
		}
	}
	l := []api.Term{cell(t, "10"), cell(t, "9"), cell(t, "<a>"), {}}
	slices.SortFunc(l, shape.Compare)
	if !slices.Equal(l, []api.Term{{}, cell(t, "<a>"), cell(t, "9"), cell(t, "10")}) {
		t.Errorf("%v", l)
	}
}

// P12.1: two numbers, the lesser one ahead; of one amount, as term.Compare says; and what looks like a number, and is none.
func TestCompareNumbers(t *testing.T) {
	for _, c := range []struct {
		a, b api.Term
		want int
	}{
		{integer("9"), integer("10"), -1}, {integer("-9"), integer("-10"), 1}, {integer("2"), decimal("1.5"), 1}, {integer("1"), decimal("1.5"), -1}, {decimal("0.5"), decimal("0.45"), 1}, {integer("-1"), integer("1"), -1}, {integer("-999999999"), integer("999999999"), -1}, {decimal("99999.9999"), integer("100000"), -1},
		{integer("1"), integer("1"), 0}, {decimal("1.0"), decimal("1.0"), 0}, {integer("1"), integer("01"), 1}, {integer("1"), decimal("1.0"), -1}, {integer("01"), decimal("1.0"), -1}, {decimal("1.0"), decimal("1.00"), -1}, {integer("+1"), integer("1"), -1}, {integer("0"), integer("-0"), 1}, {integer("+0"), integer("-0"), -1}, {decimal(".5"), decimal("0.5"), -1}, {decimal("10.0"), integer("010"), 1},
		{integer("x"), integer("999999999"), 1}, {integer(""), integer("999999999"), 1}, {integer("1.0"), integer("2"), 1}, {decimal("1"), integer("2"), 1}, {integer("1000000000"), integer("2"), 1}, {integer("1000000000"), integer("2000000000"), -1}, {integer("10000000000"), integer("2000000000"), -1}, {integer("-2000000000"), integer("-1000000000"), 1}, {integer("-1000000000"), integer("0"), 1}, {decimal("0.00001"), decimal("0.0001"), 1},
		{literal("9"), literal("10"), 1}, {literal("1"), integer("2"), 1}, {tagged("1", "en"), integer("2"), 1}, {typed("1", api.TypeString), integer("2"), 1}, {typed("9", "t"), typed("10", "t"), 1}, {typed("0", api.TypeInteger+"s"), integer("1"), 1},
	} {
		if n, m := shape.Compare(c.a, c.b), shape.Compare(c.b, c.a); n != c.want || m != -c.want {
			t.Errorf("%v and %v: %d, %d; not %d", c.a, c.b, n, m, c.want)
		}
	}
}

// someTerm tells some right term, often nearly another one.
func someTerm(r *rand.Rand) api.Term {
	s := strings.Repeat("0", r.IntN(3)) + strconv.Itoa(r.IntN(12))
	whole := []string{"", "+", "-"}[r.IntN(3)] + s
	part := whole + "." + strings.Repeat("0", r.IntN(3)) + []string{"0", "5"}[r.IntN(2)]
	return []api.Term{
		{}, blank("b" + s), iri(s), integer(whole), integer(whole), decimal(part), decimal(part), integer(part), decimal(whole), literal(whole), tagged(part, "en"), typed(whole, api.TypeString), variable("v" + s),
	}[r.IntN(13)]
}

// P12.3: Compare is an order: just the same term is 0, the other way round it is the other one, and what is behind one is behind what is ahead of that.
func TestCompareOrder(t *testing.T) {
	r := rand.New(rand.NewPCG(12, 1))
	for range 300000 {
		a, b, c := someTerm(r), someTerm(r), someTerm(r)
		x, y, z := shape.Compare(a, b), shape.Compare(b, c), shape.Compare(a, c)
		if (x == 0) != (a == b) || x != -shape.Compare(b, a) || x < -1 || x > 1 {
			t.Fatalf("%v and %v: %d", a, b, x)
		}
		if x <= 0 && y <= 0 && z > 0 || x < 0 && y <= 0 && z >= 0 || x <= 0 && y < 0 && z >= 0 {
			t.Fatalf("%v, %v, %v: %d, %d, %d", a, b, c, x, y, z)
		}
	}
}

// P12.1: terms that are not right: anything, but no panic.
func TestCompareWrong(t *testing.T) {
	l := append(wrongTerms(), slices.Concat(rising(), []api.Term{integer("\x00"), integer("é"), integer(strings.Repeat("9", 1<<20)), decimal("." + strings.Repeat("9", 1<<20)), typed("1", strings.Repeat("t", 1<<20)), {Kind: api.Literal, Text: "1", Type: api.TypeInteger, Lang: "en"}, {Kind: api.Var, Text: "1", Type: api.TypeInteger}, {Kind: api.None, Text: "1", Type: api.TypeInteger}})...)
	for _, a := range l {
		for _, b := range l {
			shape.Compare(a, b)
		}
	}
}
