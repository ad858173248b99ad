package percent_test

import (
	"math/rand/v2"
	"slices"
	"testing"

	"legation/api"
	"legation/percent"
)

// P15.2: no call writes into its arguments, nor into the room behind them, nor is what it tells changed, when they are written over.
func TestArgumentsStay(t *testing.T) {
	someTexts(7, func(r *rand.Rand, _ string) {
		l := somePairs(r)
		n := len(l)
		l = append(l, api.Pair{Key: "room", Value: "room"}, api.Pair{})
		was := slices.Clone(l)
		key := "none"
		if n > 0 {
			key = l[r.IntN(n)].Key
		}
		s, e := percent.Write(l[:n])
		v, d := percent.Get(l[:n], key)
		if !slices.Equal(l, was) {
			t.Fatalf("%q became %q", was, l)
		}
		for i := range l {
			l[i] = api.Pair{Key: "spoilt", Value: "spoilt"}
		}
		if x, err := percent.Write(was[:n]); x != s || err != e {
			t.Fatalf("%q: %q, %d; then %q, %d", was[:n], s, e, x, err)
		}
		if x, err := percent.Get(was[:n], key); x != v || err != d {
			t.Fatalf("%q: %q, %d; then %q, %d", was[:n], v, d, x, err)
		}
	})
}

// P15.2: what lies behind a list's end is none of its pairs.
func TestRoomIsNothing(t *testing.T) {
	l := append(alike(64, api.Pair{Key: "a", Value: "b"}), api.Pair{Key: "room", Value: "c"}, api.Pair{Key: "a"})
	reads(t, l[:64:66], plainPairing(l[:64]))
	reads(t, l[:0], "")
	if v, e := percent.Get(l[:64], "room"); v != "" || e != api.ErrForm {
		t.Fatalf("%q, %d", v, e)
	}
	if v, e := percent.Get(l[63:64], "a"); v != "b" || e != api.OK {
		t.Fatalf("%q, %d", v, e)
	}
}

// P15.2: two answers share nothing: one that is written over, or appended to, changes no other.
func TestAnswersAreNew(t *testing.T) {
	someTexts(8, func(r *rand.Rand, _ string) {
		s := plainPairing(somePairs(r))
		want, _ := plainRead(s)
		one, e := percent.Read(s)
		two, d := percent.Read(s)
		if e != d || !slices.Equal(one, want) {
			t.Fatalf("%q: %q, %d; %d", s, one, e, d)
		}
		one = append(one, api.Pair{Key: "appended"})
		for i := range one[:cap(one)] {
			one[:cap(one)][i] = api.Pair{Key: "spoilt"}
		}
		three, _ := percent.Read(s)
		if !slices.Equal(two, want) || !slices.Equal(three, want) {
			t.Fatalf("%q: %q and %q", s, two, three)
		}
	})
}

// P15.1, P15.2: what a call tells of bytes handed in as a text hangs on nothing that comes behind.
func TestBytesBehindTexts(t *testing.T) {
	b := []byte("k=a%20b&q=%26")
	l, e := percent.Read(string(b))
	x, d := percent.Decode(string(b[2:7]))
	y := percent.Encode(string(b))
	for i := range b {
		b[i] = '!'
	}
	if e != api.OK || d != api.OK || !slices.Equal(l, pairs("k", "a b", "q", "&")) || x != "a b" || y != "k%3Da%2520b%26q%3D%2526" {
		t.Fatalf("%q, %d; %q, %d; %q", l, e, x, d, y)
	}
}
