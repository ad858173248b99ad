package percent_test

import (
	"math/rand/v2"
	"slices"
	"strings"
	"testing"

	"legation/api"
	"legation/percent"
)

const (
	unreserved = "abcdefghijklmnopqrstuvwxyzABCDEFGHIJKLMNOPQRSTUVWXYZ0123456789-_.~"
	telling    = "=&%+ aF29f-~/?#\x00\xff" // bytes that matter most here
)

// pairs tells pairs of the keys and values that stand one behind the other.
func pairs(words ...string) []api.Pair {
	var l []api.Pair
	for i := 0; i < len(words); i += 2 {
		l = append(l, api.Pair{Key: words[i], Value: words[i+1]})
	}
	return l
}

func alike(n int, p api.Pair) []api.Pair { return slices.Repeat([]api.Pair{p}, n) }

// decodes holds that s, encoded, is written, and that what is written is s.
func decodes(t *testing.T, s, written string) {
	t.Helper()
	if x := percent.Encode(s); x != written {
		t.Fatalf("Encode of %.99q: %.99q; not %.99q", s, x, written)
	}
	if x, e := percent.Decode(written); x != s || e != api.OK {
		t.Fatalf("Decode of %.99q: %.99q, %d; not %.99q", written, x, e, s)
	}
}

// undecoded holds that s is no text, encoded.
func undecoded(t *testing.T, s string) {
	t.Helper()
	if x, e := percent.Decode(s); x != "" || e != api.ErrForm {
		t.Fatalf("Decode of %.99q: %.99q, %d", s, x, e)
	}
}

// reads holds that l, written, is s, and that s is read as l.
func reads(t *testing.T, l []api.Pair, s string) {
	t.Helper()
	if x, e := percent.Write(l); x != s || e != api.OK {
		t.Fatalf("Write of %.99q: %.99q, %d; not %.99q", l, x, e, s)
	}
	if x, e := percent.Read(s); !slices.Equal(x, l) || e != api.OK {
		t.Fatalf("Read of %.99q: %.99q, %d; not %.99q", s, x, e, l)
	}
}

// unread holds that s is refused.
func unread(t *testing.T, s string, want api.Errno) {
	t.Helper()
	if x, e := percent.Read(s); len(x) > 0 || e != want {
		t.Fatalf("Read of %.99q: %.99q, %d; not %d", s, x, e, want)
	}
}

// someTexts calls f with many texts of any bytes, or of those that matter most here.
func someTexts(seed uint64, f func(r *rand.Rand, s string)) {
	r := rand.New(rand.NewPCG(15, seed))
	for range 4000 {
		f(r, someText(r))
	}
}

func someText(r *rand.Rand) string {
	b := make([]byte, r.IntN(12))
	for i := range b {
		b[i] = byte(r.IntN(256))
		if r.IntN(2) == 0 {
			b[i] = telling[r.IntN(len(telling))]
		}
	}
	return string(b)
}

func somePairs(r *rand.Rand) []api.Pair {
	l := make([]api.Pair, r.IntN(5))
	if r.IntN(40) == 0 {
		l = make([]api.Pair, 60+r.IntN(8))
	}
	for i := range l {
		l[i] = api.Pair{Key: someText(r), Value: someText(r)}
	}
	return l
}

// someWords calls f with many texts that are laid of few words, so that some of them are right, and some nearly.
func someWords(seed uint64, words []string, f func(s string)) {
	r := rand.New(rand.NewPCG(15, seed))
	for range 30000 {
		var b strings.Builder
		for range r.IntN(8) {
			b.WriteString(words[r.IntN(len(words))])
		}
		f(b.String())
	}
}
