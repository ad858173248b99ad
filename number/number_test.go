package number_test

import (
	"math"
	"strings"
	"testing"

	"legation/api"
	"legation/number"
)

func whole(value int64) api.Num {
	return api.Num{Value: value}
}

func decimal(value int64, scale int) api.Num {
	return api.Num{Value: value, Scale: scale, Decimal: true}
}

// some are right numbers, each edge among them.
func some() []api.Num {
	var l []api.Num
	for _, v := range []int64{0, 1, 2, 3, 7, 9, 10, 11, 99, 100, 101, 12345, 33333, 100000, 99999999, 100000000, 100000001, 500000000, 999999989, 999999990, 999999998, api.MaxValue} {
		for _, value := range []int64{v, -v} {
			l = append(l, whole(value), decimal(value, 0))
			for scale := 1; scale <= api.MaxScale && v%10 != 0; scale++ {
				l = append(l, decimal(value, scale))
			}
		}
	}
	return l
}

// wrong are numbers that are not right, those of Go's types' ends among them.
func wrong() []api.Num {
	l := []api.Num{
		whole(api.MaxValue + 1), whole(-api.MaxValue - 1),
		whole(math.MaxInt64), whole(math.MinInt64), whole(-math.MaxInt64), whole(math.MaxInt32), whole(math.MinInt32), whole(1 << 32), whole(1<<32 + 1),
		decimal(api.MaxValue+1, 0), decimal(-api.MaxValue-1, 0), decimal(api.MaxValue+2, 4), decimal(-api.MaxValue-2, 4),
		decimal(math.MaxInt64, 1), decimal(math.MinInt64, 1), decimal(math.MinInt64+1, 4),
		decimal(1, api.MaxScale+1), decimal(1, 2*api.MaxScale), decimal(1, 3*api.MaxScale), decimal(0, api.MaxScale+1),
		decimal(1, -1), decimal(0, -1), decimal(10, -1), decimal(1, -api.MaxScale),
		decimal(1, math.MaxInt), decimal(1, math.MinInt), decimal(math.MaxInt64, math.MaxInt), decimal(math.MinInt64, math.MinInt), decimal(1, 1<<32), decimal(1, 1<<32+1),
		{Value: 1, Scale: 1}, {Value: 0, Scale: 1}, {Value: 1, Scale: api.MaxScale}, {Value: 1, Scale: -1}, {Value: 1, Scale: math.MaxInt}, {Value: 1, Scale: math.MinInt},
	}
	for scale := 1; scale <= api.MaxScale; scale++ {
		l = append(l, decimal(0, scale), decimal(10, scale), decimal(-10, scale), decimal(120, scale), decimal(999999990, scale), decimal(-100000000, scale))
	}
	return l
}

// P2.1: numbers that are right and that are not; these have no text and no term.
func TestCheck(t *testing.T) {
	for _, n := range some() {
		if e := number.Check(n); e != api.OK {
			t.Errorf("%+v: %d", n, e)
		}
	}
	for _, n := range wrong() {
		if e := number.Check(n); e != api.ErrForm {
			t.Errorf("%+v: %d", n, e)
		}
		if s, e := number.Text(n); s != "" || e != api.ErrForm {
			t.Errorf("%+v: text %q %d", n, s, e)
		}
		if x, e := number.Term(n); x != (api.Term{}) || e != api.ErrForm {
			t.Errorf("%+v: term %+v %d", n, x, e)
		}
	}
}

type written struct {
	s string
	n api.Num
}

// P2.1: texts written out, there and back, and their terms.
func TestText(t *testing.T) {
	for _, one := range []written{
		{"0", whole(0)}, {"7", whole(7)}, {"-7", whole(-7)}, {"10", whole(10)}, {"-100", whole(-100)},
		{"999999999", whole(999999999)}, {"-999999999", whole(-999999999)},
		{"0.0", decimal(0, 0)}, {"2.0", decimal(2, 0)}, {"-2.0", decimal(-2, 0)}, {"10.0", decimal(10, 0)},
		{"999999999.0", decimal(999999999, 0)}, {"-999999999.0", decimal(-999999999, 0)},
		{"1.5", decimal(15, 1)}, {"-1.5", decimal(-15, 1)}, {"0.5", decimal(5, 1)}, {"-0.5", decimal(-5, 1)},
		{"10.1", decimal(101, 1)}, {"1.01", decimal(101, 2)}, {"0.101", decimal(101, 3)}, {"0.0101", decimal(101, 4)},
		{"0.05", decimal(5, 2)}, {"0.005", decimal(5, 3)}, {"0.0005", decimal(5, 4)}, {"-0.0005", decimal(-5, 4)}, {"1.0001", decimal(10001, 4)},
		{"99999999.9", decimal(999999999, 1)}, {"99999.9999", decimal(999999999, 4)}, {"-99999.9999", decimal(-999999999, 4)},
	} {
		kind := api.TypeInteger
		if one.n.Decimal {
			kind = api.TypeDecimal
		}
		x := api.Term{Kind: api.Literal, Text: one.s, Type: kind}
		if s, e := number.Text(one.n); s != one.s || e != api.OK {
			t.Errorf("%+v: %q %d", one.n, s, e)
		}
		if n, e := number.Read(one.s, one.n.Decimal); n != one.n || e != api.OK {
			t.Errorf("%q: %+v %d", one.s, n, e)
		}
		if n, e := number.Read(one.s, !one.n.Decimal); n != (api.Num{}) || e != api.ErrForm {
			t.Errorf("%q, of the other kind: %+v %d", one.s, n, e)
		}
		if y, e := number.Term(one.n); y != x || e != api.OK {
			t.Errorf("%+v: %+v %d", one.n, y, e)
		}
		if n, e := number.Of(x); n != one.n || e != api.OK {
			t.Errorf("%+v: %+v %d", x, n, e)
		}
	}
}

// P2.1: what may be read beside the texts that Text tells.
func TestRead(t *testing.T) {
	for _, one := range []written{
		{"+0", whole(0)}, {"-0", whole(0)}, {"00", whole(0)}, {"+7", whole(7)}, {"007", whole(7)}, {"-007", whole(-7)}, {"+007", whole(7)},
		{"+999999999", whole(999999999)}, {"-0999999999", whole(-999999999)},
		{"0000000000000", whole(0)}, {"0000000000001", whole(1)}, {"0000999999999", whole(999999999)}, {"-0000999999999", whole(-999999999)}, {"+0000000000010", whole(10)},
		{"-0.0", decimal(0, 0)}, {"+0.0", decimal(0, 0)}, {".0", decimal(0, 0)}, {"-.0", decimal(0, 0)}, {".0000", decimal(0, 0)}, {"000000000.0000", decimal(0, 0)},
		{"1.50", decimal(15, 1)}, {"+2.0000", decimal(2, 0)}, {"02.0", decimal(2, 0)}, {"10.00", decimal(10, 0)}, {"100.10", decimal(1001, 1)},
		{".25", decimal(25, 2)}, {"-.25", decimal(-25, 2)}, {"+.25", decimal(25, 2)}, {".0001", decimal(1, 4)}, {"-.0010", decimal(-1, 3)}, {"000000000.0001", decimal(1, 4)},
		{"99999.9999", decimal(999999999, 4)}, {"99999999.90", decimal(999999999, 1)}, {"999999.9990", decimal(999999999, 3)},
		{"999999999.0000", decimal(999999999, 0)}, {"-999999999.0000", decimal(-999999999, 0)}, {"099999999.9000", decimal(999999999, 1)}, {"-000099999.9999", decimal(-999999999, 4)},
	} {
		if n, e := number.Read(one.s, one.n.Decimal); n != one.n || e != api.OK {
			t.Errorf("%q: %+v %d", one.s, n, e)
		}
	}
}

// P2.1: texts that are none's, whole or decimal.
func TestReadOfNone(t *testing.T) {
	long := strings.Repeat("0", 1<<20)
	l := []string{
		"", "+", "-", ".", "+.", "-.", "--1", "++1", "+-1", "-+1", "--1.0", "+-1.0", "-+1.0", "1-", "1+", "1.0-", "-1.-5", "1.+5", ".-5", "1.-", "-1.5+",
		"1.", "-1.", "0.", "999999999.", "1..0", "..5", "1.2.3", ".5.", "1.00000", "0.00000", "0.00001", ".12345", "1.12345",
		" 1", "1 ", "1 0", " 1.0", "1.0 ", "1. 0", "- 1", "- 1.0", "1\n", "1.0\n", "\t1", "1\x00", "\x001.0",
		"a", "1a", "a1", "1.a", "1.0a", "a.0", "x1.0", "1e1", "1.0e1", "1E1", "0x1", "0x1.0", "0b1", "0o7", "1_0", "1_0.0", "1,0", "1,0.0", "1/2", "1:", "/1", ":1", "1.:", "1./", "Inf", "NaN", "inf", "nan",
		"é", "\xff", "1\xff", "1.\xff", "1.0\xff", "١", "١.١", "１", "１.０", "1．0", "−1", "−1.0", "½",
		"1000000000", "-1000000000", "1234567890", "9999999999999", "-9999999999999", "0001000000000", "2147483648", "4294967297",
		"00000000000000", "00000000000001", "-00000000000001", "+00000000000001", "10000000000000", "18446744073709551617", "9223372036854775808", "36893488147419103233",
		"1000000000.0", "-1000000000.0", "1000000000.0000", "999999999.9", "999999999.1000", "100000000.1", "-100000000.1", "100000.0001", "-100000.0001", "10000000.01", "1000000.001", "999999999.0001", "99999999.99",
		"0000000000000.0", "0000000000001.0", "0000000000.0000", "0000000000.0001", "-0000000000.0001", "+0000000000.0000", "1844674407370955161.7", "1000000000000000000.0",
		long, "-" + long, long + ".0", "." + long, long + "1", long + "." + long, strings.Repeat("-", 1<<20), strings.Repeat(".", 1<<20),
	}
	for _, s := range l {
		for _, d := range []bool{false, true} {
			if n, e := number.Read(s, d); n != (api.Num{}) || e != api.ErrForm {
				t.Errorf("%.60q %v: %+v %d", s, d, n, e)
			}
		}
		for _, kind := range []string{api.TypeInteger, api.TypeDecimal} {
			if n, e := number.Of(api.Term{Kind: api.Literal, Text: s, Type: kind}); n != (api.Num{}) || e != api.ErrForm {
				t.Errorf("%.60q %s: %+v %d", s, kind, n, e)
			}
		}
	}
}

// P2.1: each byte, at each place of a text.
func TestReadOfEachByte(t *testing.T) {
	for i := range 256 {
		c := string([]byte{byte(i)})
		digit := i >= '0' && i <= '9'
		sign := c == "+" || c == "-"
		for _, one := range []struct {
			s       string
			decimal bool
			right   bool
		}{
			{c, false, digit}, {c + "1", false, digit || sign}, {"1" + c, false, digit}, {"1" + c + "1", false, digit}, {"-" + c, false, digit}, {"+" + c + "1", false, digit},
			{c, true, false}, {c + ".1", true, digit || sign}, {c + "1.1", true, digit || sign}, {"1" + c + "1", true, c == "."}, {"." + c, true, digit}, {"1.1" + c, true, digit}, {"1." + c + "1", true, digit}, {"1" + c + ".1", true, digit}, {"-" + c + "1", true, c == "."},
		} {
			if n, e := number.Read(one.s, one.decimal); (e == api.OK) != one.right || e != api.OK && (e != api.ErrForm || n != api.Num{}) {
				t.Errorf("%q %v: %+v %d", one.s, one.decimal, n, e)
			}
		}
	}
}

// P2.1: terms of other kinds and types, and terms that are not right.
func TestOfNone(t *testing.T) {
	for _, x := range []api.Term{
		{},
		{Kind: api.Iri, Text: "7"},
		{Kind: api.Iri, Text: api.TypeInteger},
		{Kind: api.Blank, Text: "b7"},
		{Kind: api.Var, Text: "x7"},
		{Kind: api.Literal, Text: "7"},
		{Kind: api.Literal, Text: "7", Lang: "en"},
		{Kind: api.Literal, Text: "7.0"},
		{Kind: api.Literal, Text: "7", Type: api.TypeString},
		{Kind: api.Literal, Text: "7.0", Type: api.TypeString},
		{Kind: api.Literal, Text: "1", Type: api.TypeBoolean},
		{Kind: api.Literal, Text: "7", Type: "http://t"},
		{Kind: api.Literal, Text: "7", Type: "integer"},
		{Kind: api.Literal, Text: "7", Type: api.TypeInteger + "s"},
		{Kind: api.Literal, Text: "7", Type: strings.ToUpper(api.TypeInteger)},
		{Kind: api.Literal, Text: "7", Type: api.TypeDecimal},
		{Kind: api.Literal, Text: "7.0", Type: api.TypeInteger},
		{Kind: api.Literal, Text: "7", Type: api.TypeInteger, Lang: "en"},
		{Kind: api.Literal, Text: "7.0", Type: api.TypeDecimal, Lang: "en"},
		{Kind: api.Iri, Text: "7", Type: api.TypeInteger},
		{Kind: api.Blank, Text: "b7", Type: api.TypeInteger},
		{Kind: api.Var, Text: "x7", Type: api.TypeDecimal},
		{Text: "7", Type: api.TypeInteger},
		{Type: api.TypeInteger},
		{Kind: -1, Text: "7", Type: api.TypeInteger},
		{Kind: 5, Text: "7.0", Type: api.TypeDecimal},
		{Kind: math.MinInt, Text: "7", Type: api.TypeInteger},
		{Kind: math.MaxInt, Text: "7", Type: api.TypeInteger},
	} {
		if n, e := number.Of(x); n != (api.Num{}) || e != api.ErrForm {
			t.Errorf("%+v: %+v %d", x, n, e)
		}
	}
}

// P2.3: Read of Text is the number, and Of of Term.
func TestThereAndBack(t *testing.T) {
	back := func(n api.Num) {
		s, e := number.Text(n)
		if e != api.OK {
			t.Fatalf("%+v: %d", n, e)
		}
		if m, e := number.Read(s, n.Decimal); m != n || e != api.OK {
			t.Fatalf("%q: %+v %d", s, m, e)
		}
		x, e := number.Term(n)
		if m, f := number.Of(x); m != n || e != api.OK || f != api.OK {
			t.Fatalf("%+v: %+v %d %d", n, m, e, f)
		}
	}
	for _, n := range some() {
		back(n)
	}
	for v := int64(-12000); v <= 12000; v++ {
		back(whole(v))
		back(decimal(v, 0))
		for scale := 1; scale <= api.MaxScale && v%10 != 0; scale++ {
			back(decimal(v, scale))
		}
	}
}

// plain tells a text that may be read without needless signs and noughts.
func plain(s string) string {
	below := strings.HasPrefix(s, "-")
	ahead, behind, stop := strings.Cut(strings.TrimLeft(s, "+-"), ".")
	ahead, behind = strings.TrimLeft(ahead, "0"), strings.TrimRight(behind, "0")
	none := ahead+behind == ""
	if ahead == "" {
		ahead = "0"
	}
	if stop && behind == "" {
		behind = "0"
	}
	if stop {
		ahead += "." + behind
	}
	if below && !none {
		return "-" + ahead
	}
	return ahead
}

// P2.3, other way round: Text of Read is the text without needless signs and noughts; every short text is tried.
func TestEveryShortText(t *testing.T) {
	const alphabet = "0157.+-"
	count := 0
	level := []string{""}
	for range 7 {
		var next []string
		for _, s := range level {
			for i := range len(alphabet) {
				next = append(next, s+alphabet[i:i+1])
			}
		}
		level = next
		for _, s := range level {
			count += tryShort(t, s)
		}
	}
	if count < 10000 {
		t.Errorf("just %d texts", count)
	}
}

// tryShort tells how many of the two kinds a text of at most seven bytes may be read as.
func tryShort(t *testing.T, s string) int {
	rest := s
	if strings.HasPrefix(s, "+") || strings.HasPrefix(s, "-") {
		rest = s[1:]
	}
	ahead, behind, stop := strings.Cut(rest, ".")
	digits := !strings.ContainsAny(ahead+behind, ".+-")
	count := 0
	for _, d := range []bool{false, true} {
		right := digits && d == stop
		if d {
			right = right && len(behind) >= 1 && len(behind) <= 4
		} else {
			right = right && ahead != ""
		}
		n, e := number.Read(s, d)
		if right != (e == api.OK) || right && n.Decimal != d || !right && n != (api.Num{}) {
			t.Fatalf("%q %v: %+v %d", s, d, n, e)
		}
		if !right {
			continue
		}
		count++
		if back, e := number.Text(n); back != plain(s) || e != api.OK {
			t.Fatalf("%q: back %q %d", s, back, e)
		}
	}
	return count
}
