package pool_test

import (
	"slices"
	"testing"

	"legation/api"
	"legation/pool"
)

// P19.1: the chapter's example.
func TestExample(t *testing.T) {
	a, b := to(3, "a"), from(5, "b")
	p := pool.New()
	if p.Send(a) != api.OK || p.Send(b) != api.OK || p.Double(0) != api.OK {
		t.Fatal("refused")
	}
	holds(t, p, []api.Message{a, b, a})
	if m, e := p.Take(1); m != b || e != api.OK {
		t.Errorf("%s, %d", brief(m), e)
	}
	holds(t, p, []api.Message{a, a})
}

// P19.1: a new pool has no message; what comes to one does not come to another.
func TestNew(t *testing.T) {
	p, other := pool.New(), pool.New()
	if p == nil || other == nil || p == other {
		t.Fatal("no new pool")
	}
	holds(t, p, nil)
	if e := p.Send(to(0, "a")); e != api.OK {
		t.Errorf("%d", e)
	}
	holds(t, p, []api.Message{to(0, "a")})
	holds(t, other, nil)
	holds(t, pool.New(), nil)
}

// P19.1, P19.2: calls one after another, each with what is there behind it, written out.
func TestCalls(t *testing.T) {
	a, b, c := to(0, "a"), from(7, "b"), to(7, "")
	p := pool.New()
	for i, x := range []struct {
		c    call
		m    api.Message
		e    api.Errno
		left []api.Message
	}{
		{c: call{kind: send, m: a}, left: []api.Message{a}},
		{c: call{kind: send, m: b}, left: []api.Message{a, b}},
		{c: call{kind: send, m: a}, left: []api.Message{a, b, a}},
		{c: call{kind: send, m: c}, left: []api.Message{a, b, a, c}},
		{c: call{kind: double, i: 1}, left: []api.Message{a, b, a, c, b}},
		{c: call{kind: double, i: 4}, left: []api.Message{a, b, a, c, b, b}},
		{c: call{kind: take, i: 2}, m: a, left: []api.Message{a, b, c, b, b}},
		{c: call{kind: drop, i: 5}, e: api.ErrNone, left: []api.Message{a, b, c, b, b}},
		{c: call{kind: drop, i: 4}, left: []api.Message{a, b, c, b}},
		{c: call{kind: take, i: 0}, m: a, left: []api.Message{b, c, b}},
		{c: call{kind: take, i: 3}, e: api.ErrNone, left: []api.Message{b, c, b}},
		{c: call{kind: send, m: api.Message{}}, e: api.ErrForm, left: []api.Message{b, c, b}},
		{c: call{kind: send, m: a}, left: []api.Message{b, c, b, a}},
		{c: call{kind: drop, i: 1}, left: []api.Message{b, b, a}},
		{c: call{kind: drop, i: 0}, left: []api.Message{b, a}},
		{c: call{kind: take, i: 1}, m: a, left: []api.Message{b}},
		{c: call{kind: double, i: -1}, e: api.ErrNone, left: []api.Message{b}},
		{c: call{kind: take, i: 0}, m: b},
		{c: call{kind: take, i: 0}, e: api.ErrNone},
		{c: call{kind: drop, i: 0}, e: api.ErrNone},
		{c: call{kind: double, i: 0}, e: api.ErrNone},
		{c: call{kind: send, m: c}, left: []api.Message{c}},
	} {
		if got := x.c.does(p); got.m != x.m || got.e != x.e {
			t.Fatalf("%d: %s: %s, %d; not %s, %d", i, x.c.brief(), brief(got.m), got.e, brief(x.m), x.e)
		}
		holds(t, p, x.left)
	}
}

// P19.2: messages are counted by where they go, not by where they come from.
func TestCount(t *testing.T) {
	p := of(t, to(0, "a"), to(0, "a"), from(0, "a"), to(7, "a"), from(7, "a"), from(3, "b"), to(0, "b")).p
	for _, n := range numbers() {
		want := map[int]int{-1: 3, 0: 3, 7: 1}[n]
		if got := p.Count(n); got != want {
			t.Errorf("%d for %d; not %d", got, n, want)
		}
	}
	p.Drop(0)
	p.Double(4)
	if p.Count(0) != 2 || p.Count(-1) != 4 || p.Count(3) != 0 {
		t.Errorf("%d %d %d", p.Count(0), p.Count(-1), p.Count(3))
	}
}

// P19.2: what tells of a pool changes nothing of it, however often it is asked.
func TestAsked(t *testing.T) {
	a := of(t, numbered(20)...)
	for range 5 {
		holds(t, a.p, a.l)
	}
	a.checkCalls(t, call{kind: take, i: 19}, call{kind: take, i: 0}, call{kind: double, i: 17})
}

// P19.1: messages that are the same are there as often as they came, and leave one by one.
func TestSame(t *testing.T) {
	a := of(t, to(1, "x"), to(1, "x"), to(2, "x"), to(1, "x"), from(1, "x"))
	a.checkCalls(t, call{kind: double, i: 3}, call{kind: double, i: 3}, call{kind: double, i: 2}, call{kind: take, i: 1}, call{kind: drop, i: 0})
	if want := []api.Message{to(2, "x"), to(1, "x"), from(1, "x"), to(1, "x"), to(1, "x"), to(2, "x")}; !slices.Equal(a.p.All(), want) {
		t.Errorf("%s; not %s", brief(a.p.All()...), brief(want...))
	}
}
