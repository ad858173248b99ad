package eval_test

import (
	"testing"

	"legation/api"
	"legation/eval"
)

// checkTruth holds a term's truth; has tells whether it has one.
func checkTruth(t *testing.T, x api.Term, is, has bool) {
	t.Helper()
	want := api.OK
	if !has {
		want = api.ErrOver
	}
	if got, e := eval.Truth(x); got != (is && has) || e != want {
		t.Fatalf("%s: %v %d; not %v %v", brief(x), got, e, is, has)
	}
	vars, row := []string{"x"}, []api.Term{x}
	checkComes(t, []api.Part{asked("x"), of(api.XNot)}, vars, row, plainTruth(!is), has)
	if holds, e := eval.Holds([]api.Part{asked("x")}, vars, row); holds != (is && has) || e != api.OK {
		t.Fatalf("%s: holds %v %d", brief(x), holds, e)
	}
}

// P10.1: terms that are true, that are false, and that have no truth.
func TestTruth(t *testing.T) {
	for _, x := range []api.Term{
		boolean("true"), literal("a"), literal("0"), literal("false"), literal(" "), literal("\n"), wording("a"), wording("0"), wording("false"), wording(" "), worded("a", "en"), worded("0", "en"), worded("false", "en"),
		integer("1"), integer("-1"), integer("+1"), integer("007"), integer("999999999"), integer("-999999999"), integer("0000000000001"),
		decimal("0.1"), decimal("-0.1"), decimal(".5"), decimal("+.5"), decimal("0.0001"), decimal("-0.0001"), decimal("99999.9999"), decimal("10.00"),
	} {
		checkTruth(t, x, true, true)
	}
	for _, x := range []api.Term{
		boolean("false"), literal(""), wording(""), worded("", "en"), integer("0"), integer("-0"), integer("+0"), integer("000"), decimal("0.0"), decimal("-0.0"), decimal(".0000"), decimal("00.00"),
	} {
		checkTruth(t, x, false, true)
	}
	for _, x := range []api.Term{
		boolean(""), boolean("1"), boolean("0"), boolean("TRUE"), boolean("False"), boolean(" true"), boolean("true "), boolean("truefalse"),
		integer(""), integer("x"), integer("-"), integer("1.0"), integer("1 "), integer("1000000000"), integer("-1000000000"), integer("00000000000001"), integer("true"),
		decimal(""), decimal("."), decimal("1"), decimal("1."), decimal("0.00001"), decimal("1e1"), decimal("1000000000.0"), decimal("false"),
		typed("", "t"), typed("a", "t"), typed("true", "t"), typed("1", "t"), typed("1", "http://www.w3.org/2001/XMLSchema#int"), typed("true", "boolean"), typed("a", api.TypeString+"s"), typed("a", "http://www.w3.org/2001/XMLSchema#String"),
		iri("a"), iri("true"), iri(api.TypeBoolean), blank("a"), blank("true"), {Kind: api.Var, Text: "true"}, {},
	} {
		checkTruth(t, x, false, false)
	}
	for _, x := range someTerms() {
		is, has := plainIs(x)
		checkTruth(t, x, is, has)
	}
}

// conditions are formulas of each truth, and of errors of each kind.
func conditions() map[string][]string {
	return map[string][]string{
		"true":  {"TRUE", "1", `"a"`, "! FALSE", `"x"@en`},
		"false": {"FALSE", "0", `""`, "! TRUE", "0.0"},
		"error": {"?none", "?there", "<a>", "1 / 0", `"a"^^<t>`, `"1"^^boolean`, "! ?none", "?b"},
	}
}

// P10.2, P10.3: && and || of each pair of true, false and error, in either order.
func TestAndOr(t *testing.T) {
	for pair, want := range map[[2]string][2]string{
		{"true", "true"}: {"true", "true"}, {"true", "false"}: {"false", "true"}, {"true", "error"}: {"error", "true"},
		{"false", "true"}: {"false", "true"}, {"false", "false"}: {"false", "false"}, {"false", "error"}: {"false", "error"},
		{"error", "true"}: {"error", "true"}, {"error", "false"}: {"false", "error"}, {"error", "error"}: {"error", "error"},
	} {
		for _, a := range conditions()[pair[0]] {
			for _, b := range conditions()[pair[1]] {
				for i, sign := range []string{"&&", "||"} {
					checkComes(t, read(t, a+" "+sign+" "+b), []string{"there", "b"}, []api.Term{{}, blank("b")}, boolean(want[i]), want[i] != "error")
				}
			}
		}
	}
}

// P10.2: ! of each truth, and of errors.
func TestNot(t *testing.T) {
	other := map[string]string{"true": "false", "false": "true", "error": "error"}
	for truth, l := range conditions() {
		for _, s := range l {
			checkComes(t, read(t, "! "+s), []string{"there", "b"}, []api.Term{{}, blank("b")}, boolean(other[truth]), truth != "error")
			checkComes(t, read(t, "! ! "+s), []string{"there", "b"}, []api.Term{{}, blank("b")}, boolean(truth), truth != "error")
		}
	}
}

// P10.3: ! of && is || of !s, ! of || is && of !s, and neither && nor || hangs on an order, of any two terms.
func TestOrderSaysNothing(t *testing.T) {
	vars := []string{"x", "y"}
	same := [][2]string{{"?x && ?y", "?y && ?x"}, {"?x || ?y", "?y || ?x"}, {"! ( ?x && ?y )", "! ?x || ! ?y"}, {"! ( ?x || ?y )", "! ?x && ! ?y"}}
	for _, pair := range same {
		f, g := read(t, pair[0]), read(t, pair[1])
		for _, x := range append(someTerms(), api.Term{}) {
			for _, y := range append(someTerms(), api.Term{}) {
				row := []api.Term{x, y}
				a, e := eval.Eval(f, vars, row)
				if b, d := eval.Eval(g, vars, row); a != b || e != d {
					t.Fatalf("%s: %s %d, but %s: %s %d of %s", pair[0], brief(a), e, pair[1], brief(b), d, brief(row))
				}
			}
		}
	}
}
