package pool_test

import (
	"strings"
	"testing"

	"legation/api"
	"legation/pool"
)

// wrong are messages that are not right, each by one thing, or by several.
func wrong() []api.Message {
	long := strings.Repeat("a", api.MaxMessage+1)
	l := []api.Message{{}, to(0, long), from(7, long), {Bytes: long}, to(-1, ""), to(-1, "a"), to(8, long)}
	for _, n := range numbers() {
		l = append(l, api.Message{From: n, To: n}, api.Message{From: n, To: 2}, api.Message{From: 2, To: n, Bytes: "a"}, api.Message{From: -2, To: n}, api.Message{From: n, To: 8})
	}
	var none []api.Message
	for _, m := range l {
		if !plainRight(m) {
			none = append(none, m)
		}
	}
	return none
}

// P19.1: what is not right is refused, and changes nothing; in a full pool, too, for its form is looked at first.
func TestWrong(t *testing.T) {
	for _, n := range []int{0, 1, 3, 255, 256} {
		a := of(t, numbered(n)...)
		for _, m := range wrong() {
			if e := a.p.Send(m); e != api.ErrForm {
				t.Errorf("%s to %d messages: %d", brief(m), n, e)
			}
		}
		holds(t, a.p, a.l)
	}
}

// P19.1: of a full pool, a place that is none is told, not that it is full.
func TestNoPlaceOfFull(t *testing.T) {
	a := of(t, numbered(api.MaxPool)...)
	for _, i := range numbers() {
		want := api.ErrLong
		if i < 0 || i > 255 {
			want = api.ErrNone
			if m, e := a.p.Take(i); m != (api.Message{}) || e != want {
				t.Errorf("take %d: %s, %d", i, brief(m), e)
			}
			if e := a.p.Drop(i); e != want {
				t.Errorf("drop %d: %d", i, e)
			}
		}
		if e := a.p.Double(i); e != want {
			t.Errorf("double %d: %d; not %d", i, e, want)
		}
	}
	holds(t, a.p, a.l)
}

// P19.1, P19.2: a nil pool refuses all, whatever it is handed, and has nothing.
func TestNil(t *testing.T) {
	var p *pool.Pool
	for _, m := range append(wrong(), numbered(20)...) {
		if e := p.Send(m); e != api.ErrState {
			t.Errorf("send %s: %d", brief(m), e)
		}
	}
	for _, i := range numbers() {
		for _, kind := range []int{take, drop, double} {
			c := call{kind: kind, i: i}
			if got := c.does(p); got != (told{e: api.ErrState}) {
				t.Errorf("%s: %s, %d", c.brief(), brief(got.m), got.e)
			}
		}
	}
	holds(t, p, nil)
}

// Rule 2: what is refused is told with no message, and leaves all as it was.
func TestRefused(t *testing.T) {
	for _, n := range []int{0, 1, 2, 9, 256} {
		a := of(t, numbered(n)...)
		for _, i := range []int{-1, -n - 1, n, n + 1, n + 256} {
			for _, kind := range []int{take, drop, double} {
				c := call{kind: kind, i: i}
				if got := c.does(a.p); got != (told{e: api.ErrNone}) {
					t.Errorf("%s of %d: %s, %d", c.brief(), n, brief(got.m), got.e)
				}
				holds(t, a.p, a.l)
			}
		}
	}
}
