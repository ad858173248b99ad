package percent_test

import (
	"fmt"
	"strings"
	"testing"

	"legation/api"
	"legation/percent"
)

// P15.1: each byte by itself: 66 stand as they are, each other one is a percent sign and two digits, the higher one first.
func TestEachByte(t *testing.T) {
	for c := range 256 {
		s := string([]byte{byte(c)})
		want := fmt.Sprintf("%%%02X", c)
		if strings.Contains(unreserved, s) {
			undecoded(t, want)
			want = s
		}
		decodes(t, s, want)
		decodes(t, "a"+s+"9"+s, "a"+want+"9"+want)
	}
}

// P15.1
func TestTexts(t *testing.T) {
	for s, want := range map[string]string{
		"": "", "a": "a", unreserved: unreserved, "a b?": "a%20b%3F", "%": "%25", "%%": "%25%25", "%20": "%2520", "%2": "%252", "=&": "%3D%26", "a=b&c": "a%3Db%26c", "+": "%2B",
		"\x00": "%00", "a\x00b": "a%00b", "\x00\x00": "%00%00", "\n": "%0A", "\x7f": "%7F", "\x80": "%80", "\xff": "%FF", "\xff%": "%FF%25", "\xc3": "%C3", "\xa9\xc3": "%A9%C3", "é": "%C3%A9", "€": "%E2%82%AC", "\xed\xa0\x80": "%ED%A0%80", "\ufffd": "%EF%BF%BD",
		"SELECT * WHERE { ?x <a> \"b\" . }": "SELECT%20%2A%20WHERE%20%7B%20%3Fx%20%3Ca%3E%20%22b%22%20.%20%7D", "@[`{/:^": "%40%5B%60%7B%2F%3A%5E", "F%F0 0": "F%25F0%200", "~_.-": "~_.-",
	} {
		decodes(t, s, want)
	}
}

// P15.1: of a text that is no other one's encoding, there is none.
func TestNoTexts(t *testing.T) {
	for _, s := range []string{
		" ", "+", "a b", "=", "&", "a=b", "?", "/", "\x00", "a\x00", "\x00a", "\x7f", "\x80", "\xff", "é", "a\n", "\"", "*", "(", ",", ":", "@", "[", "`", "{", "^",
		"%", "a%", "%%", "%2", "a%2", "%20%", "%20%2", "%C3%A", "%%20", "%2%20", "%F", "% ", "% 0", "%2 ", "%20 ", "%+2", "%-1", "%0x", "%x0", "%0X",
		"%2f", "%ff", "%fF", "%Ff", "%c3%a9", "%C3%a9", "%3d", "%0a", "%G0", "%0G", "%/0", "%0/", "%:0", "%0:", "%@0", "%0@", "%`0", "%0`", "%\x000", "%0\x00", "%é", "%2\xff", "%\xff2",
		"%41", "%5A", "%61", "%7A", "%30", "%39", "%2D", "%5F", "%2E", "%7E", "a%41", "%41a", "%20%41", "%41%20", "%25%41",
	} {
		undecoded(t, s)
		undecoded(t, "a%20"+s)
		undecoded(t, s+"~")
	}
}

// P15.1: a text is bounded by nothing.
func TestLongTexts(t *testing.T) {
	n := 1 << 20
	decodes(t, strings.Repeat("a", n), strings.Repeat("a", n))
	decodes(t, strings.Repeat("%", n), strings.Repeat("%25", n))
	undecoded(t, strings.Repeat("a", n)+" ")
	undecoded(t, strings.Repeat("%25", n)+"%2")
	undecoded(t, strings.Repeat("%", n))
}

// P15.1: each text of few words is decoded as by the tests' own reading.
func TestWordsDecoded(t *testing.T) {
	right := 0
	someWords(1, []string{"%", "2", "0", "F", "f", "A", "~", " ", "%20", "%25", "%FF", "%41", "\xff", "\x00"}, func(s string) {
		want, is := plainDecode(s)
		if !is {
			undecoded(t, s)
			return
		}
		right++
		decodes(t, want, s)
	})
	if right < 1000 {
		t.Fatal(right)
	}
}

// P15.1: each two bytes behind a percent sign.
func TestEachTwoDigits(t *testing.T) {
	for c := range 1 << 16 {
		s := string([]byte{'%', byte(c >> 8), byte(c)})
		if want, is := plainDecode(s); is {
			decodes(t, want, s)
		} else if x, e := percent.Decode(s); x != "" || e != api.ErrForm {
			t.Fatalf("Decode of %q: %q, %d", s, x, e)
		}
	}
}
