package percent_test

import (
	"slices"
	"strconv"
	"strings"
	"testing"

	"legation/api"
	"legation/percent"
)

// P15.2
func TestPairs(t *testing.T) {
	reads(t, nil, "")
	reads(t, []api.Pair{}, "")
	reads(t, pairs("", ""), "=")
	reads(t, pairs("", "", "", ""), "=&=")
	reads(t, pairs("a", ""), "a=")
	reads(t, pairs("", "b"), "=b")
	reads(t, pairs("id", "1", "q", "a b"), "id=1&q=a%20b")
	reads(t, pairs("a", "1", "a", "1", "a", "2"), "a=1&a=1&a=2")
	reads(t, pairs("b", "2", "a", "1"), "b=2&a=1")
	reads(t, pairs("=", "=", "&", "&", "%", "%", " ", " "), "%3D=%3D&%26=%26&%25=%25&%20=%20")
	reads(t, pairs("a=b", "c&d", "a=b&c=d", "%3D"), "a%3Db=c%26d&a%3Db%26c%3Dd=%253D")
	reads(t, pairs("\x00", "\xff", "é", "\n"), "%00=%FF&%C3%A9=%0A")
	reads(t, pairs(unreserved, unreserved), unreserved+"="+unreserved)
	long := strings.Repeat("?", 1<<18)
	reads(t, pairs(long, "", "", long), plainEncode(long)+"=&="+plainEncode(long))
}

// P15.2: 64 pairs may be written and read, one more is too many.
func TestMostPairs(t *testing.T) {
	for _, n := range []int{63, 64} {
		reads(t, alike(n, api.Pair{}), strings.Repeat("=&", n-1)+"=")
		reads(t, alike(n, api.Pair{Key: "a", Value: " "}), strings.Repeat("a=%20&", n-1)+"a=%20")
	}
	var l []api.Pair
	for i := range 64 {
		l = append(l, api.Pair{Key: strconv.Itoa(i), Value: strconv.Itoa(-i)})
	}
	reads(t, l, plainPairing(l))
	for _, n := range []int{65, 66, 100, 1 << 16} {
		for _, p := range pairs("", "", "a", " ") {
			l := alike(n, p)
			if s, e := percent.Write(l); s != "" || e != api.ErrLong {
				t.Fatalf("Write of %d: %.99q, %d", n, s, e)
			}
			unread(t, plainPairing(l), api.ErrLong)
		}
	}
}

// P15.2
func TestNoPairs(t *testing.T) {
	for _, s := range []string{
		"a", "&", "&&", "a=b=c", "==", "=a=", "a==b", "a=&", "&a=", "a=b&", "&a=b", "a=b&&c=d", "a=b&c", "c&a=b", "a=b&c=d=e", "a&b", "a&=", "=&", "&=", "=&&=", "=&=&",
		"%", "%20", "a=%", "%=a", "a=%2", "%2=a", "a=%20%", "a=%2f", "%2f=a", "a=%41", "%41=a", "a= ", " =a", "a=+", "a b=c", "a=b;c=d", "a=b?", "a=b c", "a=\x00", "\x00=a", "a=\xff", "é=a", "a=%3D&b=%3d", "a%3Db", "a=b%26c=d", "a=b&c%3D",
	} {
		unread(t, s, api.ErrForm)
		for _, more := range []string{"x=y", "="} {
			unread(t, more+"&"+s, api.ErrForm)
			unread(t, s+"&"+more, api.ErrForm)
		}
	}
}

// P15.2: that a text is no pairs' is told ahead of that there are too many, wherever the part stands that is none.
func TestFormAheadOfLong(t *testing.T) {
	for _, n := range []int{65, 66, 130} {
		right := slices.Repeat([]string{"a=%20"}, n)
		unread(t, strings.Join(right, "&"), api.ErrLong)
		for _, part := range []string{"", "a", "a=b=c", "a=%", "%41=", " =", "a=%2f"} {
			for _, i := range []int{0, 1, 62, 63, 64, n - 1} {
				wrong := slices.Clone(right)
				wrong[i] = part
				unread(t, strings.Join(wrong, "&"), api.ErrForm)
			}
		}
		unread(t, strings.Join(right, "&")+"&", api.ErrForm)
		unread(t, "&"+strings.Join(right, "&"), api.ErrForm)
	}
	unread(t, strings.Repeat("&", 1<<18), api.ErrForm)
	unread(t, strings.Repeat("=", 1<<18), api.ErrForm)
	unread(t, strings.Repeat("=&", 1<<18), api.ErrForm)
	unread(t, strings.Repeat("=&", 1<<18)+"=", api.ErrLong)
}

// P15.2: each text of few words is read as by the tests' own reading.
func TestWordsRead(t *testing.T) {
	right := 0
	someWords(2, []string{"a", "b", "=", "=", "&", "a=b", "%20", "%3D", "%3d", "%", "="}, func(s string) {
		want, e := plainRead(s)
		if e != api.OK {
			unread(t, s, e)
			return
		}
		right++
		reads(t, want, s)
	})
	if right < 1000 {
		t.Fatal(right)
	}
}

// P15.2
func TestGet(t *testing.T) {
	l := pairs("id", "1", "q", "a b", "", "none", "x", "", "twice", "1", "twice", "1", "é", "\xff", "a%20b", "c", "thrice", "1", "thrice", "2", "thrice", "1")
	for key, want := range map[string]string{"id": "1", "q": "a b", "": "none", "x": "", "é": "\xff", "a%20b": "c"} {
		if v, e := percent.Get(l, key); v != want || e != api.OK {
			t.Errorf("%q: %q, %d", key, v, e)
		}
	}
	for _, key := range []string{"y", "ID", "Id", "i", "id ", "id=1", "1", "a b", "none", "twice", "thrice", "\xff", "\x00", "id\x00"} {
		if v, e := percent.Get(l, key); v != "" || e != api.ErrForm {
			t.Errorf("%q: %q, %d", key, v, e)
		}
	}
	for _, l := range [][]api.Pair{nil, {}, pairs("a", "b"), pairs("", "1", "", "1"), pairs("", "1", "", "")} {
		if v, e := percent.Get(l, ""); v != "" || e != api.ErrForm {
			t.Errorf("%q: %q, %d", l, v, e)
		}
	}
}

// P15.2: Get asks for one pair with the key, however many others there are.
func TestGetOfMany(t *testing.T) {
	l := append(alike(1<<16, api.Pair{Key: "a", Value: "b"}), api.Pair{Key: "last", Value: "1"})
	if v, e := percent.Get(l, "last"); v != "1" || e != api.OK {
		t.Fatalf("%q, %d", v, e)
	}
	if v, e := percent.Get(l, "a"); v != "" || e != api.ErrForm {
		t.Fatalf("%q, %d", v, e)
	}
	l[0].Key = "last"
	if v, e := percent.Get(l, "last"); v != "" || e != api.ErrForm {
		t.Fatalf("%q, %d", v, e)
	}
}
