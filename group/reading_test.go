package group_test

import (
	"slices"
	"strconv"
	"strings"
	"testing"

	"legation/api"
	"legation/number"
	"legation/shape"
	"legation/term"
)

// The tests' own reading of the chapter: groups by going over all rows for each row, least and greatest terms by their places among those that rise, sums in ten thousandths.

// rising are right terms of all sorts, each ahead of those behind it by the order of values.
func rising() []api.Term {
	l := []api.Term{{}, blank("A"), blank("a"), blank("a1"), blank("b"), iri("1"), iri("10"), iri("9"), iri("a"), iri("aa"), iri("b")}
	for _, s := range strings.Fields("-999999999 -99999.9999 -10 -9.5 -9 -01 -1 -1.0 -0.5 -0 0 0.0 .0001 .5 0.5 0.50 01 1 1.0 1.00 1.0001 1.50 2 9 9.9999 010.0 10 11 99999.9999 100000.5 999999998 0000999999999 999999999 999999999.0") {
		l = append(l, cellOf(s))
	}
	return append(l, literal(""), decimal(""), typed("", "t"), literal("\n"), literal(" "), integer("+"), decimal("0.00001"), literal("1"), tagged("1", "en"), typed("1", api.TypeString), integer("1.0"), literal("10"), decimal("100000.0001"), integer("1000000000"), literal("2"), decimal("2"), literal("a"), tagged("a", "de"), tagged("a", "en"), typed("a", "en"), literal("b"), typed("true", api.TypeBoolean))
}

// cellOf tells a number's literal.
func cellOf(s string) api.Term {
	if strings.Contains(s, ".") {
		return decimal(s)
	}
	return integer(s)
}

// amount is how many ten thousandths a number has.
type amount struct {
	value   int64
	decimal bool
}

// amountOf tells a literal's amount, if it is a number.
func amountOf(x api.Term) (amount, bool) {
	if x.Kind != api.Literal || x.Type != api.TypeInteger && x.Type != api.TypeDecimal {
		return amount{}, false
	}
	s := strings.TrimLeft(x.Text, "+-")
	whole, part, stop := strings.Cut(s, ".")
	a := amount{decimal: x.Type == api.TypeDecimal}
	switch {
	case len(x.Text)-len(s) > 1, strings.Trim(whole+part, "0123456789") != "", len(whole+part) > 13, stop != a.decimal:
		return amount{}, false
	case stop && (part == "" || len(part) > 4), !stop && whole == "":
		return amount{}, false
	}
	a.value, _ = strconv.ParseInt(whole+part+strings.Repeat("0", 4-len(part)), 10, 64)
	if strings.HasPrefix(x.Text, "-") {
		a.value = -a.value
	}
	return a, a.fits()
}

// fits tells whether an amount, cut down, is within the bounds of numbers.
func (a amount) fits() bool {
	n := a.value
	for scale := 4; scale > 0 && n%10 == 0; scale-- {
		n /= 10
	}
	return -api.MaxValue <= n && n <= api.MaxValue
}

// term tells the literal of an amount.
func (a amount) term() api.Term {
	sign, n := "", a.value
	if n < 0 {
		sign, n = "-", -n
	}
	whole := sign + strconv.FormatInt(n/10000, 10)
	if !a.decimal {
		return integer(whole)
	}
	part := strings.TrimRight(strconv.FormatInt(10000+n%10000, 10)[1:], "0")
	if part == "" {
		part = "0"
	}
	return decimal(whole + "." + part)
}

// plainSum tells the sum of terms; None, if there is none.
func plainSum(l []api.Term) api.Term {
	var sum amount
	for _, x := range l {
		a, is := amountOf(x)
		sum = amount{sum.value + a.value, sum.decimal || a.decimal}
		if !is || !sum.fits() {
			return api.Term{}
		}
	}
	return sum.term()
}

// plainOf tells what an aggregate comes to of some rows.
func plainOf(a api.Agg, vars []string, rows [][]api.Term) api.Term {
	if a.Over == "" {
		return integer(strconv.Itoa(len(rows)))
	}
	var l []api.Term
	for _, row := range rows {
		if x := row[slices.Index(vars, a.Over)]; x != (api.Term{}) {
			l = append(l, x)
		}
	}
	switch a.Kind {
	case api.ACount:
		return integer(strconv.Itoa(len(l)))
	case api.ASum:
		return plainSum(l)
	}
	order := rising()
	slices.SortFunc(l, func(x, y api.Term) int { return slices.Index(order, x) - slices.Index(order, y) })
	switch {
	case len(l) == 0:
		return api.Term{}
	case a.Kind == api.AMin:
		return l[0]
	}
	return l[len(l)-1]
}

// keyOf tells a row's terms in some columns.
func keyOf(vars, by []string, row []api.Term) []api.Term {
	var l []api.Term
	for _, name := range by {
		l = append(l, row[slices.Index(vars, name)])
	}
	return l
}

// plainGroup tells the table of groups.
func plainGroup(t api.Table, by []string, l []api.Agg) api.Table {
	var keys [][]api.Term
	for _, row := range t.Rows {
		key := keyOf(t.Vars, by, row)
		if !slices.ContainsFunc(keys, func(k []api.Term) bool { return slices.Equal(k, key) }) {
			keys = append(keys, key)
		}
	}
	if len(by) == 0 {
		keys = [][]api.Term{nil}
	}
	g := api.Table{Vars: slices.Clone(by)}
	for _, a := range l {
		g.Vars = append(g.Vars, a.Name)
	}
	for _, key := range keys {
		rows := rowsOf(t, by, key)
		row := slices.Clone(key)
		for _, a := range l {
			row = append(row, plainOf(a, t.Vars, rows))
		}
		g.Rows = append(g.Rows, row)
	}
	return g
}

// rowsOf tells the rows that have these terms in some columns.
func rowsOf(t api.Table, by []string, key []api.Term) [][]api.Term {
	var l [][]api.Term
	for _, row := range t.Rows {
		if slices.Equal(keyOf(t.Vars, by, row), key) {
			l = append(l, row)
		}
	}
	return l
}

// The terms that rise are right, and rise; what the tests take for numbers are those of layer 2.
func TestReading(t *testing.T) {
	l := rising()
	for i, x := range l {
		if term.Check(x) != api.OK || i > 0 && shape.Compare(l[i-1], x) != -1 {
			t.Errorf("%s does not rise", word(x))
		}
		n, e := number.Of(x)
		a, is := amountOf(x)
		if is != (e == api.OK) {
			t.Errorf("%s: %d", word(x), e)
		}
		if s, _ := number.Term(n); is && s != a.term() {
			t.Errorf("%s: %s and %s", word(x), word(s), word(a.term()))
		}
	}
}
