package percent_test

import (
	"math/rand/v2"
	"slices"
	"testing"

	"legation/api"
	"legation/percent"
)

// P15.3: Decode of Encode is the text, and Encode of Decode what was encoded; both are as by the tests' own reading.
func TestThereAndBack(t *testing.T) {
	someTexts(3, func(r *rand.Rand, s string) {
		decodes(t, s, plainEncode(s))
		x, e := percent.Decode(s)
		if want, is := plainDecode(s); x != want && is || is != (e == api.OK) || !is && x != "" {
			t.Fatalf("%q: %q, %d", s, x, e)
		}
		if e == api.OK && percent.Encode(x) != s {
			t.Fatalf("%q: %q, encoded %q", s, x, percent.Encode(x))
		}
	})
}

// P15.4: the encoding of texts one behind the other is theirs one behind the other.
func TestOneBehindTheOther(t *testing.T) {
	someTexts(4, func(r *rand.Rand, s string) {
		all, encoded := s, percent.Encode(s)
		for range 1 + r.IntN(3) {
			more := someText(r)
			all += more
			encoded += percent.Encode(more)
		}
		decodes(t, all, encoded)
		for i := range len(s) + 1 {
			if x := percent.Encode(s[:i]) + percent.Encode(s[i:]); x != percent.Encode(s) {
				t.Fatalf("%q, cut at %d: %q", s, i, x)
			}
		}
	})
}

// P15.5: Read of Write are the pairs, if there are no more than 64.
func TestReadOfWrite(t *testing.T) {
	someTexts(5, func(r *rand.Rand, key string) {
		l := somePairs(r)
		if len(l) > 64 {
			if s, e := percent.Write(l); s != "" || e != api.ErrLong {
				t.Fatalf("%q: %q, %d", l, s, e)
			}
			return
		}
		reads(t, l, plainPairing(l))
		n := 0
		var want string
		for _, p := range l {
			if p.Key == key {
				n, want = n+1, p.Value
			}
		}
		v, e := percent.Get(l, key)
		if n == 1 && (v != want || e != api.OK) || n != 1 && (v != "" || e != api.ErrForm) {
			t.Fatalf("%q of %q: %q, %d", key, l, v, e)
		}
	})
}

// P15.5: what is read, is written as it was, and no text nearly right is read as another one.
func TestWriteOfRead(t *testing.T) {
	someTexts(6, func(r *rand.Rand, _ string) {
		b := []byte(plainPairing(somePairs(r)))
		if len(b) > 0 && r.IntN(3) > 0 {
			i := r.IntN(len(b))
			b = slices.Replace(b, i, i+r.IntN(2), telling[r.IntN(len(telling))])
		}
		s := string(b)
		want, e := plainRead(s)
		if e != api.OK {
			unread(t, s, e)
			return
		}
		reads(t, want, s)
	})
}
