package eval_test

import (
	"strings"
	"testing"

	"legation/api"
	"legation/eval"
)

// comparisons are what two terms may be compared by.
var comparisons = []int{api.XEq, api.XNe, api.XLt, api.XGt, api.XLe, api.XGe, api.XSame}

// of2 tells the formula of ?x and ?y of a kind.
func of2(kind int) []api.Part { return []api.Part{asked("x"), asked("y"), of(kind)} }

// checkOrder holds what Compare and the comparisons by < > <= >= tell of two terms, and of them the other way round; ok tells whether there is an order.
func checkOrder(t *testing.T, a, b api.Term, order int, ok bool) {
	t.Helper()
	want := api.OK
	if !ok {
		order, want = 0, api.ErrOver
	}
	vars := []string{"x", "y"}
	for range 2 {
		if c, e := eval.Compare(a, b); c != order || e != want {
			t.Fatalf("%s %s: %d %d; not %d %d", brief(a), brief(b), c, e, order, want)
		}
		row := []api.Term{a, b}
		checkComes(t, of2(api.XLt), vars, row, plainTruth(order < 0), ok)
		checkComes(t, of2(api.XGt), vars, row, plainTruth(order > 0), ok)
		checkComes(t, of2(api.XLe), vars, row, plainTruth(order <= 0), ok)
		checkComes(t, of2(api.XGe), vars, row, plainTruth(order >= 0), ok)
		a, b, order = b, a, -order
	}
}

// P10.1, P10.2: numbers, texts and booleans in order.
func TestOrder(t *testing.T) {
	long := strings.Repeat("a", api.MaxText)
	for _, l := range [][]api.Term{ // each one less than those behind it
		{integer("-999999999"), decimal("-99999.9999"), integer("-10"), integer("-9"), decimal("-1.5"), integer("-1"), decimal("-0.0001"), integer("0"), decimal("0.0001"), decimal("0.5"), integer("1"), decimal("1.0001"), integer("2"), decimal("9.9"), integer("10"), integer("999999999")},
		{literal(""), literal("\t"), literal("\n"), literal(" "), literal("10"), literal("9"), literal("B"), literal("a"), literal("aB"), literal("aa"), literal("b"), literal("false"), literal("true"), literal("~")},
		{wording(""), wording("\t"), wording("\n"), wording(" "), wording("10"), wording("9"), wording("B"), wording("a"), wording("aB"), wording("aa"), wording("b"), wording("false"), wording("true"), wording("~")},
		{boolean("false"), boolean("true")},
		{literal(long[1:]), literal(long), literal(long[1:] + "b"), literal("b")},
		{wording(long[1:]), wording(long), wording(long[1:] + "b"), wording("b")},
		{literal("z"), literal("z\x7f"), literal("\x80"), literal("é"), literal("é\x00"), literal("\xe9"), literal("\uffff"), literal("\U00010000"), literal("\xff")}, // not right, but texts are held byte by byte
		{wording("z"), wording("z\x7f"), wording("\x80"), wording("é"), wording("\xe9"), wording("\uffff"), wording("\U00010000"), wording("\xff")},
	} {
		for i, a := range l {
			checkOrder(t, a, a, 0, true)
			for _, b := range l[i+1:] {
				checkOrder(t, a, b, -1, true)
			}
		}
	}
	for _, pair := range [][2]api.Term{{integer("1"), integer("+01")}, {integer("0"), integer("-0")}, {integer("2"), decimal("2.0")}, {decimal("1.5"), decimal("+01.5000")}, {integer("-10"), decimal("-10.0")}, {decimal("0.0"), decimal("-.0")}} {
		checkOrder(t, pair[0], pair[1], 0, true)
	}
}

// P10.1, P10.2: terms without an order.
func TestNoOrder(t *testing.T) {
	for _, x := range []api.Term{iri("a"), blank("a"), {Kind: api.Var, Text: "a"}, worded("a", "en"), typed("a", "t"), typed("1", "t"), boolean("1"), boolean(""), boolean("TRUE"), integer("x"), integer("1000000000"), integer("1.0"), decimal("1"), decimal("0.00001"), {}} {
		checkOrder(t, x, x, 0, false)
		for _, y := range someTerms() {
			checkOrder(t, x, y, 0, false)
		}
	}
	few := []api.Term{integer("1"), literal("1"), wording("1"), boolean("true"), worded("1", "en")}
	for i, x := range few {
		for _, y := range few[i+1:] {
			checkOrder(t, x, y, 0, false)
		}
	}
	checkOrder(t, worded("a", "en"), worded("b", "en"), 0, false)
	checkOrder(t, typed("a", "t"), typed("b", "t"), 0, false)
	checkOrder(t, boolean("true"), boolean("1"), 0, false)
	checkOrder(t, boolean("0"), boolean("1"), 0, false)
	checkOrder(t, literal("true"), boolean("true"), 0, false)
	checkOrder(t, decimal("1.0"), literal("1.0"), 0, false)
}

// checkEqual holds what = and != come to, whichever of the two stands ahead.
func checkEqual(t *testing.T, a, b api.Term, is, ok bool) {
	t.Helper()
	for range 2 {
		row := []api.Term{a, b}
		checkComes(t, of2(api.XEq), []string{"x", "y"}, row, plainTruth(is), ok)
		checkComes(t, of2(api.XNe), []string{"x", "y"}, row, plainTruth(!is), ok)
		a, b = b, a
	}
}

// P10.2: = and != of terms that are equal, that are not, and of which neither can be told.
func TestEqual(t *testing.T) {
	for _, x := range someTerms() {
		checkEqual(t, x, x, true, true) // the same term, or the same number
	}
	for _, l := range [][]api.Term{
		{integer("1"), integer("+1"), integer("01"), decimal("1.0"), decimal("+1.0000"), decimal("01.00")},
		{integer("0"), integer("-0"), integer("+00"), decimal("0.0"), decimal("-.0")},
		{decimal("-1.5"), decimal("-01.50")},
	} {
		for _, a := range l {
			for _, b := range l {
				checkEqual(t, a, b, true, true)
			}
		}
	}
	for _, pair := range [][2]api.Term{
		{integer("1"), integer("2")}, {integer("1"), integer("-1")}, {integer("1"), decimal("1.0001")}, {decimal("0.5"), decimal("0.25")},
		{literal("a"), literal("b")}, {literal("a"), literal("A")}, {literal(""), literal(" ")}, {literal("1"), literal("01")}, {wording("a"), wording("b")}, {wording("1"), wording("1.0")}, {boolean("true"), boolean("false")},
		{worded("a", "en"), worded("b", "en")}, {worded("a", "en"), worded("a", "de")}, {worded("a", "en"), literal("a")}, {worded("a", "en"), wording("a")}, {worded("1", "en"), integer("1")}, {worded("x", "en"), integer("x")}, {worded("true", "en"), boolean("true")}, {worded("1", "en"), boolean("1")}, {worded("a", "en"), typed("a", "t")},
		{iri("a"), iri("b")}, {iri("a"), literal("a")}, {iri("a"), blank("a")}, {iri("a"), typed("a", "t")}, {iri("1"), integer("1")}, {iri("a"), worded("a", "en")}, {iri("a"), integer("x")}, {iri("true"), boolean("1")}, {iri("a"), wording("a")},
		{blank("a"), blank("b")}, {blank("a"), literal("a")}, {blank("a"), typed("a", "t")}, {blank("a"), integer("1")}, {blank("a"), boolean("0")}, {api.Term{Kind: api.Var, Text: "a"}, blank("a")},
	} {
		checkEqual(t, pair[0], pair[1], false, true)
	}
	for _, pair := range [][2]api.Term{
		{literal("a"), wording("a")}, {literal("a"), wording("b")}, {literal("1"), integer("1")}, {literal("1"), decimal("1.0")}, {literal("true"), boolean("true")}, {literal("a"), typed("a", "t")}, {literal("x"), integer("x")},
		{wording("1"), integer("1")}, {wording("true"), boolean("true")}, {wording("a"), typed("a", "t")},
		{boolean("true"), boolean("1")}, {boolean("false"), boolean("0")}, {boolean("1"), boolean("0")}, {boolean("true"), boolean("TRUE")}, {boolean("true"), integer("1")}, {boolean("true"), typed("true", "t")},
		{typed("a", "t"), typed("b", "t")}, {typed("a", "t"), typed("a", "u")}, {typed("1", "t"), integer("1")}, {integer("x"), integer("y")}, {integer("x"), integer("1")}, {integer("x"), decimal("x")}, {integer("1000000000"), integer("1")}, {integer("1000000000"), integer("01000000000")}, {decimal("1"), integer("1")}, {decimal("1"), decimal("1.0")}, {decimal("0.00001"), decimal("0.00002")},
	} {
		checkEqual(t, pair[0], pair[1], false, false)
	}
}

// P10.1, P10.2, P10.5: each two terms, compared in each way; = and != are never both true, nor both false.
func TestEachTwo(t *testing.T) {
	vars := []string{"x", "y"}
	for _, x := range someTerms() {
		for _, y := range someTerms() {
			order, ok := plainCompare(x, y)
			checkOrder(t, x, y, order, ok)
			for _, kind := range comparisons {
				want, ok := plainComes(kind, []api.Term{x, y})
				checkComes(t, of2(kind), vars, []api.Term{x, y}, want, ok)
			}
			a, e := eval.Eval(of2(api.XEq), vars, []api.Term{x, y})
			b, d := eval.Eval(of2(api.XNe), vars, []api.Term{x, y})
			if e != d || e == api.OK && (a == b || a != plainTruth(a.Text == "true") || b != plainTruth(a.Text == "false")) {
				t.Fatalf("%s %s: = %s %d, != %s %d", brief(x), brief(y), brief(a), e, brief(b), d)
			}
		}
	}
}

// P10.2: comparisons of what is an error are errors.
func TestComparedErrors(t *testing.T) {
	for _, kind := range append([]int{api.XAdd, api.XSub, api.XMul, api.XDiv}, comparisons...) {
		for _, x := range someTerms() {
			for _, row := range [][]api.Term{{x, {}}, {{}, x}, {{}, {}}} {
				checkComes(t, of2(kind), []string{"x", "y"}, row, api.Term{}, false)
			}
		}
	}
}
