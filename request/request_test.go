package request_test

import (
	"math"
	"strconv"
	"strings"
	"testing"

	"legation/api"
	"legation/request"
)

// P16.1: the chapter's example.
func TestExample(t *testing.T) {
	puts(t, api.Request{Id: 7, Text: "ASK { }"}, "id=7&query=ASK%20%7B%20%7D")
	asks(t, 7, parsed(t, "ASK { }"), "id=7&query=ASK%20%7B%20%7D")
}

// P16.1
func TestRequests(t *testing.T) {
	for _, n := range []int{0, 1, 7, 9, 10, 12, 99, 100, 999, 1000, 1024, 4094, 4095} {
		id := strconv.Itoa(n)
		puts(t, api.Request{Id: n}, "id="+id+"&query=")
		puts(t, api.Request{Id: n, Text: "a-Z_0.9~"}, "id="+id+"&query=a-Z_0.9~")
		puts(t, api.Request{Id: n, Text: "SELECT * WHERE { ?x <a> \"é\" . }"}, "id="+id+"&query=SELECT%20%2A%20WHERE%20%7B%20%3Fx%20%3Ca%3E%20%22%C3%A9%22%20.%20%7D")
	}
	for text, written := range map[string]string{
		"": "", "=": "%3D", "&": "%26", "%": "%25", "\x00": "%00", "\xff\xfe": "%FF%FE", "a\xc3": "a%C3", "+": "%2B", " ": "%20", "\r\n\t": "%0D%0A%09", "0": "0", "-1": "-1", "id": "id", "id=1": "id%3D1", "id=1&query=": "id%3D1%26query%3D", "%41": "%2541", "%2f": "%252f", "&query=a": "%26query%3Da", "a\x00b": "a%00b", "é": "%C3%A9", "\u2028": "%E2%80%A8",
	} {
		puts(t, api.Request{Id: 3, Text: text}, "id=3&query="+written)
	}
}

// P16.1: each byte stands in a Text as layer 15 writes it.
func TestBytesOfText(t *testing.T) {
	for i := range 256 {
		for _, text := range []string{string([]byte{byte(i)}), string([]byte{'a', byte(i), byte(i), '='})} {
			puts(t, api.Request{Id: i, Text: text}, "id="+strconv.Itoa(i)+"&query="+plainEncode(text))
		}
	}
}

// P16.1: each Id that may be, those on the edges that may not.
func TestIds(t *testing.T) {
	for id := range 4096 {
		puts(t, api.Request{Id: id, Text: "a b"}, "id="+strconv.Itoa(id)+"&query=a%20b")
	}
	for _, id := range []int{-1, -2, -7, -10, -4095, -4096, math.MinInt, math.MinInt32, 4096, 4097, 9999, 10000, 65536, math.MaxInt32, math.MaxInt, 1 << 32, 1<<32 + 7} {
		unput(t, api.Request{Id: id}, api.ErrRange)
		unput(t, api.Request{Id: id, Text: "ASK { }"}, api.ErrRange)
		ungot(t, "id="+strconv.Itoa(id)+"&query=")
		ungot(t, "id="+strconv.Itoa(id)+"&query=ASK%20%7B%20%7D")
		unasked(t, id, parsed(t, "ASK { }"), api.ErrRange)
	}
}

// P16.1: a Text of 4096 bytes may be, whatever its bytes, one more is too many.
func TestLongTexts(t *testing.T) {
	for _, part := range []string{"a", " ", "=", "&", "%", "\x00", "\xff", "é", "a b"} {
		text := strings.Repeat(part, 4097)
		for _, n := range []int{4095, 4096} {
			puts(t, api.Request{Id: 4095, Text: text[:n]}, "id=4095&query="+plainEncode(text[:n]))
		}
		for _, n := range []int{4097, len(text)} {
			if n > 4096 {
				unput(t, api.Request{Text: text[:n]}, api.ErrLong)
				ungot(t, "id=0&query="+plainEncode(text[:n]))
			}
		}
	}
	unput(t, api.Request{Id: 1, Text: strings.Repeat("?", 1<<20)}, api.ErrLong)
	ungot(t, "id=1&query="+strings.Repeat("%3F", 1<<20))
}

// P16.1: a wrong Id is told ahead of a Text that is too long.
func TestRangeAheadOfLong(t *testing.T) {
	for _, n := range numbers() {
		for _, size := range []int{0, 4096, 4097, 1 << 16} {
			r := api.Request{Id: n, Text: strings.Repeat(" ", size)}
			switch {
			case !isId(n):
				unput(t, r, api.ErrRange)
			case size > 4096:
				unput(t, r, api.ErrLong)
			default:
				puts(t, r, plainPut(r))
			}
		}
	}
}

// P16.1: two pairs, of these Keys, in this order.
func TestOtherPairs(t *testing.T) {
	for _, b := range []string{
		"", "=", "&", "=&=", "id", "id=", "id=1", "query", "query=", "query=a", "id=1&", "&query=a", "id&query", "id=1&query", "id&query=a", "id1&querya",
		"id=1&query=a&", "&id=1&query=a", "id=1&&query=a", "id=1&query=a&x=1", "x=1&id=1&query=a", "id=1&x=1&query=a", "id=1&query=a&=", "=&id=1&query=a", "id=1&query=a&query=a", "id=1&id=1&query=a", "id=1&query=a&id=1",
		"query=a&id=1", "query=1&id=1", "id=1&id=1", "id=1&id=a", "query=1&query=a", "1=id&a=query",
		"ID=1&query=a", "Id=1&query=a", "id=1&Query=a", "id=1&QUERY=a", "i=1&query=a", "idd=1&query=a", "id=1&quer=a", "id=1&querys=a", "=1&query=a", "id=1&=a", "id_=1&query=a", "id=1&query.=a", "x=1&query=a", "id=1&x=a", "x=1&y=a",
		"id%20=1&query=a", "id=1&%20query=a", "id%00=1&query=a", "%69d=1&query=a", "i%64=1&query=a", "id=1&%71uery=a", "id=1&quer%79=a", "id%3D1&query=a", "id=1%26query%3Da", "id=1%26query=a",
		"id=1=&query=a", "id=1&query=a=", "id==1&query=a", "id=1&query==a", "id=1&query=a=b", "id=1;query=a", "id=1?query=a", "?id=1&query=a", "id=1&amp;query=a",
		" id=1&query=a", "id=1&query=a ", "id=1 &query=a", "id=1& query=a", "id =1&query=a", "id=1&query= a", "id=1&query=a\n", "\x00id=1&query=a", "id=1&query=a\x00", "id:1&query=a", "id=1&query:a",
	} {
		ungot(t, b)
	}
}

// P16.1: pairs beyond what layer 15 reads are no request's bytes either.
func TestManyPairs(t *testing.T) {
	for _, n := range []int{1, 2, 61, 62, 63, 64, 65, 1 << 12} {
		for _, part := range []string{"=", "id=1", "query=a", "x=y", "a", ""} {
			more := strings.Repeat("&"+part, n)
			ungot(t, "id=1&query=a"+more)
			ungot(t, more[1:]+"&id=1&query=a")
			ungot(t, "id=1"+more+"&query=a")
		}
	}
	ungot(t, strings.Repeat("&", 1<<18))
	ungot(t, strings.Repeat("=", 1<<18))
	ungot(t, strings.Repeat("id=1&query=a&", 1<<14)+"=")
}

// P16.1: an Id's digits as they are written, and no others.
func TestDigits(t *testing.T) {
	for _, s := range []string{
		"", "00", "01", "007", "0000", "00001", "01234", "04095", "0x1", "0b1", "0o7", "1_0", "1e1", "1.0", "1.", ".1", "-", "-0", "-1", "-7", "--1", "%2B1", "%2B0", "%2B", "+1", "%201", "1%20", "1%202", "%20", "%001", "1%00", "1%0A", "a", "1a", "a1", "A", "F", "x", "i", "l", "one",
		"%31", "%30", "1%31", "%3", "1%", "4096", "4097", "4099", "4100", "5000", "9999", "10000", "40950", "65536", "99999", "4294967296", "4294967303", "9223372036854775807", "9223372036854775808", "18446744073709551616", "18446744073709551623", "-9223372036854775808", "%D9%A1", "%EF%BC%91", "²", "null", "nil", "Inf", "NaN", "true",
		strings.Repeat("0", 1<<16), strings.Repeat("0", 1<<16) + "1", strings.Repeat("9", 1<<16), "1" + strings.Repeat("0", 1<<16), strings.Repeat("1", 20), strings.Repeat("0", 5),
	} {
		ungot(t, "id="+s+"&query=")
		ungot(t, "id="+s+"&query=ASK%20%7B%20%7D")
	}
}

// P16.1: a Text is read just as layer 15 writes it.
func TestOtherEncodings(t *testing.T) {
	for _, s := range []string{
		"%", "%%", "%2", "%4", "a%", "a%2", "%2G", "%G2", "%g0", "% 2", "%+2", "%2 ", "%-1", "%0x", "%20%", "%20%2", "%2%20", "%%20", "%u0020",
		"%2f", "%3d", "%3f", "%c3%a9", "%C3%a9", "%fF", "%Ff", "%7b", "%7d", "%0a", "%2a", "ASK%20%7b%20%7d",
		"%41", "%5A", "%61", "%7A", "%30", "%39", "%2D", "%2E", "%5F", "%7E", "%53ELECT", "a%62c",
		" ", "a b", "+", "a+b", "?", "/", "#", "{", "}", "*", "\"", "'", "(", ")", ",", ";", ":", "<", ">", "@", "[", "\\", "]", "^", "`", "|", "!", "$", "\x00", "\n", "\t", "\x7f", "\x80", "\xff", "é", "ASK { }", "=", "&", "a=b", "a&b",
	} {
		ungot(t, "id=1&query="+s)
		ungot(t, "id=1&query=a"+s+"b")
	}
}

// P16.1: bytes that are not read as a request are refused as such, whatever else is wrong with them.
func TestAllWrong(t *testing.T) {
	long := strings.Repeat("%20", 4097)
	for _, b := range []string{"id=4096&query=" + long, "id=01&query=" + long, "query=" + long + "&id=1", "id=4096&x=" + long, "id=4096", "id=4096&query=%2f", long, "id=1&query=" + long + "%", "id=1&query=" + long + "&query=" + long} {
		ungot(t, b)
	}
}

// P16.1: the request of which all is zero is a right one.
func TestZero(t *testing.T) {
	puts(t, api.Request{}, "id=0&query=")
	if x, e := request.Get("id=0&query="); x != (api.Request{}) || e != api.OK {
		t.Fatalf("%v, %d", x, e)
	}
}
