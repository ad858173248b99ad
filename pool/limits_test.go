package pool_test

import (
	"math"
	"strconv"
	"strings"
	"testing"

	"legation/api"
	"legation/pool"
)

// P19.1: From and To are the mediator's and an endpoint's, one each; all pairs of numbers at the edges.
func TestEnds(t *testing.T) {
	many := 0
	for _, f := range numbers() {
		for _, to := range numbers() {
			a := of(t, from(0, "a"))
			a.checkCalls(t, call{kind: send, m: api.Message{From: f, To: to, Bytes: "b"}})
			many += a.p.Len() - 1
		}
	}
	if many != 16 { // to each of eight endpoints, and from each
		t.Errorf("%d are right", many)
	}
}

// P19.1: messages at the edges, written out.
func TestEdgesOfEnds(t *testing.T) {
	for _, one := range []struct {
		from, to int
		e        api.Errno
	}{
		{-1, 0, api.OK}, {0, -1, api.OK}, {-1, api.MaxPoints - 1, api.OK}, {api.MaxPoints - 1, -1, api.OK}, {-1, 4, api.OK}, {4, -1, api.OK},
		{-1, -1, api.ErrForm}, {0, 0, api.ErrForm}, {0, 1, api.ErrForm}, {7, 0, api.ErrForm}, {7, 7, api.ErrForm},
		{-1, api.MaxPoints, api.ErrForm}, {api.MaxPoints, -1, api.ErrForm}, {-1, -2, api.ErrForm}, {-2, -1, api.ErrForm},
		{-2, -2, api.ErrForm}, {8, 8, api.ErrForm}, {-2, 0, api.ErrForm}, {0, -2, api.ErrForm}, {8, 0, api.ErrForm}, {0, 8, api.ErrForm},
		{-1, math.MaxInt, api.ErrForm}, {math.MaxInt, -1, api.ErrForm}, {-1, math.MinInt, api.ErrForm}, {math.MinInt, -1, api.ErrForm},
	} {
		p := pool.New()
		if e := p.Send(api.Message{From: one.from, To: one.to}); e != one.e || p.Len() == 1 != (e == api.OK) {
			t.Errorf("%d>%d: %d, %d messages; not %d", one.from, one.to, e, p.Len(), one.e)
		}
	}
}

// P19.1: Bytes are at most MaxMessage, whatever they are; they stay as they are.
func TestMostBytes(t *testing.T) {
	for _, n := range []int{0, 1, 2, 4095, 4096, 4097, 65534, 65535, 65536, 65537, 65538, 1 << 17, 1 << 20} {
		for _, unit := range []string{"a", "\x00", "\xff", "\n"} {
			a := of(t, to(0, "a"))
			for _, m := range []api.Message{to(7, strings.Repeat(unit, n)), from(0, strings.Repeat(unit, n))} {
				a.checkCalls(t, call{kind: send, m: m})
			}
			if is := a.p.Len() == 3; is != (n <= api.MaxMessage) {
				t.Errorf("%d bytes: %d messages", n, a.p.Len())
			}
		}
	}
	long := strings.Repeat("é", api.MaxMessage/2) // bytes are counted, not runes
	a := of(t, to(0, long))
	a.checkCalls(t, call{kind: send, m: to(0, long+"a")}, call{kind: double, i: 0}, call{kind: take, i: 1})
	if a.p.Len() != 1 {
		t.Errorf("%d messages", a.p.Len())
	}
}

// P19.1: the first place and the last one are places, one less and one more are none, nor are the smallest and the largest numbers.
func TestPlaces(t *testing.T) {
	for _, n := range []int{0, 1, 2, 3, 4, 5, 16, 17, 254, 255, 256} {
		for _, i := range []int{0, 1, n / 2, n - 2, n - 1, n, n + 1, -1, -2, -n, 255, 256, 257, math.MaxInt32, math.MinInt32, math.MaxInt, math.MaxInt - 1, math.MinInt, math.MinInt + 1} {
			for _, kind := range []int{take, drop, double} {
				a := of(t, numbered(n)...)
				a.checkCalls(t, call{kind: kind, i: i}, call{kind: kind, i: i}, call{kind: take, i: 0})
			}
		}
	}
}

// P19.1: each place of a pool, taken, dropped and doubled.
func TestEachPlace(t *testing.T) {
	for n := range 12 {
		for i := range n {
			for _, kind := range []int{take, drop, double} {
				of(t, numbered(n)...).checkCalls(t, call{kind: kind, i: i})
			}
		}
	}
}

// P19.1: MaxPool messages have room, one more has none; it has, when one has left.
func TestFull(t *testing.T) {
	more := []call{{kind: send, m: to(6, "new")}, {kind: double, i: 0}, {kind: double, i: 255}, {kind: double, i: 100}}
	for _, c := range more {
		a := of(t, numbered(api.MaxPool-1)...)
		if c.i == 255 {
			c.i = 254
		}
		if got := c.does(a.p); got.e != api.OK || a.p.Len() != 256 {
			t.Fatalf("%s: %d, %d messages", c.brief(), got.e, a.p.Len())
		}
		a.l = a.p.All()
		for _, other := range more {
			if got := other.does(a.p); got.e != api.ErrLong {
				t.Fatalf("%s: %d", other.brief(), got.e)
			}
			holds(t, a.p, a.l)
		}
		for _, i := range []int{255, 0, 77} {
			a.checkCalls(t, call{kind: take, i: i}, c, c, call{kind: drop, i: i}, call{kind: double, i: 254}, call{kind: double, i: 254})
		}
	}
}

// P19.1: a pool is full by doubling alone as by sending alone.
func TestDoubledFull(t *testing.T) {
	a := of(t, to(0, "a"), from(1, "b"))
	for i := range 300 {
		a.checkCalls(t, call{kind: double, i: i % 2})
	}
	if a.p.Len() != api.MaxPool || a.p.Count(0) != 128 || a.p.Count(-1) != 128 {
		t.Errorf("%d messages, %d for 0, %d for -1", a.p.Len(), a.p.Count(0), a.p.Count(-1))
	}
	b := of(t)
	for i := range 300 {
		b.checkCalls(t, call{kind: send, m: to(i%8, strconv.Itoa(i))})
	}
	if b.p.Len() != api.MaxPool || b.p.All()[255].Bytes != "255" {
		t.Errorf("%d messages", b.p.Len())
	}
}
