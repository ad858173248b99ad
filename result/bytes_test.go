package result_test

import (
	"strconv"
	"strings"
	"testing"

	"legation/api"
)

// P17.2: bytes whose lines are too few, too many, or not ended.
func TestLines(t *testing.T) {
	for _, b := range []string{
		"", "\n", "\n\n", "\n\n\n", "1", "1\n", "1\n\n", "1\n\n\n", "true", "true\n", "\ntrue\n", "1true\n", "1 true\n", "1\ttrue\n", "rows\n", "\nrows\n\n", "\nrows\n?x\n<a>\n", "error 1\n", "\nerror 1\n",
		"1\ntrue", "1\nfalse", "1\nerror 5", "1\nrows", "1\nrows\n", "1\nrows\n?x", "1\nrows\n?x\n<a>", "1\nrows\n?x\n\n<a>",
		"1\ntrue\n\n", "1\ntrue\ntrue\n", "1\nfalse\n\n", "1\nfalse\n?x\n", "1\nerror 5\n\n", "1\nerror 5\nerror 5\n", "1\ntrue\n1\ntrue\n", "1\n\ntrue\n", "\n1\ntrue\n", "1\ntrue\nx", "1\ntrue\n ", "1\nrows\n?x\n<a>\nx", "1\nrows\n\n<a>\n", "1\nrows\n\n\n<a>\n", "1\nrows\n\n\t\n", "1\nrows\n\n \n",
		"1\r\ntrue\r\n", "1\ntrue\r\n", "1\rtrue\r", "1\r\ntrue\n", "1\nrows\r\n?x\n<a>\n", "1\nrows\n?x\r\n<a>\n", "1\nrows\n?x\n<a>\r\n", "1\x00true\x00", "1\ntrue\x00", "1\ntrue\n\x00", "1\x0btrue\n", "1\u2028true\n", "\ufeff1\ntrue\n",
	} {
		ungot(t, b, api.ErrForm)
	}
}

// P17.2: an Id's digits as they are written, and no others.
func TestDigits(t *testing.T) {
	for _, s := range []string{
		"", "00", "01", "007", "0000", "00001", "01234", "04095", "0x1", "0b1", "0o7", "1_0", "1e1", "1.0", "1.", ".1", "-", "-0", "-1", "-7", "--1", "+", "+0", "+1", "++1", " ", " 1", "1 ", "1 2", "\t1", "1\t", "\x001", "1\x00", "a", "1a", "a1", "A", "F", "x", "i", "l", "one", "?1", "<1>", "\"1\"",
		"4096", "4097", "4099", "4100", "5000", "9999", "10000", "40950", "65536", "99999", "4294967296", "4294967303", "9223372036854775807", "9223372036854775808", "18446744073709551616", "18446744073709551623", "-9223372036854775808", "-4096", "\u0661", "\uff11", "²", "null", "nil", "Inf", "NaN", "true", "rows",
		strings.Repeat("0", 1<<15), strings.Repeat("0", 1<<15) + "1", strings.Repeat("9", 1<<15), "1" + strings.Repeat("0", 1<<15), strings.Repeat("1", 20), strings.Repeat("0", 5),
	} {
		for _, rest := range []string{"true\n", "false\n", "error 5\n", "rows\n\n", "rows\n?x\n<a>\n"} {
			ungot(t, s+"\n"+rest, api.ErrForm)
		}
	}
}

// P17.2: words that are none of the four, or not just one.
func TestOtherWords(t *testing.T) {
	for _, s := range []string{
		"", " ", "t", "f", "1", "0", "yes", "no", "True", "TRUE", "False", "FALSE", "true ", " true", "true false", "true true", "truefalse", "true\t", "true 1", "true5", "false ", " false", "false 0", "tru", "truee", "fals", "falsee", "\"true\"", "<true>", "true.", "nil", "ask", "ok", "none", "unknown",
		"Rows", "ROWS", "row", "rowss", "rows ", " rows", "rows 1", "rows\t", "rows ?x", "rows\t?x", "table", "?x", "<a>", "rowsrows",
	} {
		for _, rest := range []string{"", "\n", "?x\n", "?x\n<a>\n"} {
			ungot(t, "1\n"+s+"\n"+rest, api.ErrForm)
		}
	}
}

// P17.2: an error's digit, one, from 1 to 9, behind one blank.
func TestOtherErrors(t *testing.T) {
	for _, s := range []string{
		"error", "error ", "error  ", "error  5", "error 5 ", " error 5", "error\t5", "error5", "error 0", "error 00", "error 05", "error 50", "error 55", "error 10", "error 11", "error 99", "error -1", "error -5", "error +5", "error 5.0", "error 5 5", "error a", "error x", "error A", "error form", "error over", "error ok", "errors 5", "erro 5", "Error 5", "ERROR 5", "err 5", "error:5", "error=5", "5", "error 0x5", "error 5_", "error 4294967297", "error 18446744073709551617", "error 9223372036854775808", "error \u0665", "error 5\x00", "error\x005", "error \n5",
	} {
		ungot(t, "1\n"+s+"\n", api.ErrForm)
		ungot(t, "1\n"+s, api.ErrForm)
	}
}

// P17.2: a line of variables that is none's.
func TestOtherVariables(t *testing.T) {
	many := strings.TrimSuffix(strings.ReplaceAll("?"+names(33), " ", "\t?"), "\t?")
	for _, s := range []string{
		"x", "$x", "?", "??x", "?x?y", "?x ?y", "?x,?y", "?x\ty", "x\t?y", "?x\t?", "?\t?x", "?x\t", "\t?x", "\t", "?x\t\t?y", "?x\t?y\t", " ?x", "?x ", "? x", "?1", "?_x", "?x-", "?é", "?x\x00", "?\xff", "<x>", "_:x", "\"x\"", "?x\t<y>", "?x\t_:y", "?x\t\"y\"", "<a>\t?x", "?x.", "(?x)",
		"?x\t?x", "?x\t?y\t?x", "?y\t?x\t?x", "?" + strings.Repeat("n", 33), "?x\t?" + strings.Repeat("n", 33), many, "?" + strings.Repeat("n", 1<<15), strings.Repeat("?x\t", 1<<13) + "?y",
	} {
		columns := strings.Count(s, "\t")
		for _, rest := range []string{"", strings.Repeat("\t", columns) + "\n", strings.Repeat("<a>\t", columns) + "<a>\n"} {
			ungot(t, "1\nrows\n"+s+"\n"+rest, api.ErrForm)
		}
	}
}

// P17.2: rows of too many cells, or of too few.
func TestOtherRows(t *testing.T) {
	for _, b := range []string{
		"\n<a>\n", "\n\n<a>\n", "\n\t\n", "\n\t\t\n",
		"?x\n\t\n", "?x\n<a>\t<a>\n", "?x\n<a>\t\n", "?x\n\t<a>\n", "?x\n\t\t\n", "?x\n<a>\n\t\n", "?x\n\n\t\n\n",
		"?x\t?y\n\n", "?x\t?y\n<a>\n", "?x\t?y\n<a>\t<a>\t<a>\n", "?x\t?y\n<a>\t<a>\t\n", "?x\t?y\n\t\t\n", "?x\t?y\n\t\n\n", "?x\t?y\n\t<a>\n<a>\n", "?x\t?y\n<a>\n\t<a>\n", "?x\t?y\n<a>\t<a>\n\n", "?x\t?y\n\n<a>\t<a>\n", "?x\t?y\n<a> <a>\n", "?x\t?y\n<a>,<a>\n",
		"?x\t?y\t?z\n\t\n", "?x\t?y\t?z\n<a>\t<a>\n", "?x\t?y\t?z\n\t\t\t\n",
	} {
		ungot(t, "1\nrows\n"+b, api.ErrForm)
	}
}

// otherCells are no term's texts, a term's otherwise written, and a variable's.
func otherCells() []string {
	return []string{
		" ", "a", "1", "true", "-", "None", "nil", "?x", "?", "<", ">", "<>", "<a", "a>", "<<a>>", "<a>>", "<a><b>", "<a> ", " <a>", "<a> .", "<a b>", "<a\"b>", "<a\\b>", "<é>", "<\x7f>", "<a\x00>", "_", "_:", "_:1", "_:_a", "_:a-b", "_: a", "_:a ", " _:a", "_:é", "_:" + strings.Repeat("n", 33),
		"\"", "\"a", "a\"", "\"\"\"", "\"a\"b\"", "\"a\"\"", "\"\\\"", "\"\\a\"", "\"\\r\"", "\"\\u0041\"", "\"\\x41\"", "\"\\N\"", "\"\\ \"", "\"a\\", "\"\r\"", "\"\x00\"", "\"\x7f\"", "\"é\"", "\"\xff\"", "'a'", "\"\"\"a\"\"\"", "\"a\" ", " \"a\"", "\"a\"@", "\"a\"@EN", "\"a\"@e1", "\"a\"@abcdefghi", "\"a\"@en-gb", "\"a\" @en", "\"a\"@ en", "\"a\"@en ", "\"a\"@en^^<t>", "\"a\"^^", "\"a\"^^t", "\"a\"^^<>", "\"a\"^^<t", "\"a\"^^<a b>", "\"a\"^<t>", "\"a\"^^ <t>", "\"a\" ^^<t>", "\"a\"^^<t>@en", "\"a\"^^_:t", "\"a\"^^?t", "\"1\"^^xsd:integer", "1.5",
		"<" + strings.Repeat("a", 4097) + ">", "\"" + strings.Repeat("a", 4097) + "\"", "\"a\"^^<" + strings.Repeat("a", 4097) + ">", "<" + strings.Repeat("a", 1<<15), "\"" + strings.Repeat("\\", 1<<15), strings.Repeat("<", 1<<15),
	}
}

// P17.2: cells that are no term's text, wherever they stand.
func TestOtherCells(t *testing.T) {
	for _, s := range otherCells() {
		ungot(t, "1\nrows\n?x\n"+s+"\n", api.ErrForm)
		ungot(t, "1\nrows\n?x\n<a>\n"+s+"\n<a>\n", api.ErrForm)
		ungot(t, "1\nrows\n?x\t?y\n"+s+"\t\n", api.ErrForm)
		ungot(t, "1\nrows\n?x\t?y\n\t"+s+"\n", api.ErrForm)
		ungot(t, "1\nrows\n?x\t?y\t?z\n<a>\t"+s+"\t<a>\n", api.ErrForm)
	}
}

// P17.2: what is a reply's, but for one of many of its bytes, is not read in part.
func TestEachByte(t *testing.T) {
	for _, b := range []string{"10\nrows\n?x\t?y\n<a>\t\"b\\n\"@en\n\t_:c\n", "4095\ntrue\n", "7\nfalse\n", "0\nerror 9\n", "3\nrows\n\n\n", "3\nrows\n?x\n\n\"1\"^^<t>\n"} {
		right := 0
		for i := range len(b) + 1 {
			for c := range 256 {
				more := b[:i] + string([]byte{byte(c)}) + b[i:]
				right += gets(t, more)
				if i < len(b) {
					right += gets(t, b[:i]+string([]byte{byte(c)})+b[i+1:])
				}
			}
			if i < len(b) {
				right += gets(t, b[:i]+b[i+1:])
			}
		}
		if right == 0 {
			t.Errorf("%q: none was right", b)
		}
	}
}

// P17.2: each text of at most four bytes that may be an Id's.
func TestEachId(t *testing.T) {
	right := 0
	bytes := "0123456789-+ aF\n"
	var grow func(s string, n int)
	grow = func(s string, n int) {
		right += gets(t, s+"\ntrue\n")
		for i := range len(bytes) {
			if n > 0 {
				grow(s+bytes[i:i+1], n-1)
			}
		}
	}
	grow("", 4)
	if right != 4096 {
		t.Errorf("%d were right", right)
	}
	for n := range 12 { // and each digit that may be an error's
		if is := gets(t, "1\nerror "+strconv.Itoa(n)+"\n") == 1; is != (1 <= n && n <= 9) {
			t.Errorf("error %d: %t", n, is)
		}
	}
}
