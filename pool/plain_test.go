package pool_test

import (
	"math"
	"slices"
	"strconv"
	"testing"

	"legation/api"
	"legation/pool"
)

func to(n int, bytes string) api.Message   { return api.Message{From: -1, To: n, Bytes: bytes} }
func from(n int, bytes string) api.Message { return api.Message{From: n, To: -1, Bytes: bytes} }

// The calls that change a pool.
const (
	send = iota
	take
	drop
	double
)

// call is one of them, with what it is handed.
type call struct {
	kind int
	m    api.Message // of send
	i    int         // of the others
}

// told is what a call tells; of all but take no message.
type told struct {
	m api.Message
	e api.Errno
}

// does makes a call of a pool.
func (c call) does(p *pool.Pool) told {
	switch c.kind {
	case send:
		return told{e: p.Send(c.m)}
	case drop:
		return told{e: p.Drop(c.i)}
	case double:
		return told{e: p.Double(c.i)}
	}
	m, e := p.Take(c.i)
	return told{m, e}
}

// plainly tells what the chapter says of a call of a pool with l's messages, and which messages are there behind it.
func (c call) plainly(l []api.Message) (told, []api.Message) {
	if c.kind == send {
		switch {
		case !plainRight(c.m):
			return told{e: api.ErrForm}, l
		case len(l) == 256:
			return told{e: api.ErrLong}, l
		}
		return told{}, append(slices.Clone(l), c.m)
	}
	if c.i < 0 || c.i > len(l)-1 {
		return told{e: api.ErrNone}, l
	}
	switch {
	case c.kind == double && len(l) == 256:
		return told{e: api.ErrLong}, l
	case c.kind == double:
		return told{}, append(slices.Clone(l), l[c.i])
	}
	var left []api.Message
	for i, m := range l {
		if i != c.i {
			left = append(left, m)
		}
	}
	if c.kind == drop {
		return told{}, left
	}
	return told{m: l[c.i]}, left
}

// plainRight tells whether m is right: what goes from the mediator to an endpoint, or back.
func plainRight(m api.Message) bool {
	points := []int{0, 1, 2, 3, 4, 5, 6, 7}
	there := m.From == -1 && slices.Contains(points, m.To)
	back := m.To == -1 && slices.Contains(points, m.From)
	return (there || back) && len(m.Bytes) <= 65536
}

// brief tells messages by their ends and the beginnings of their bytes.
func brief(l ...api.Message) string {
	s := strconv.Itoa(len(l)) + ":"
	for _, m := range l {
		s += " " + strconv.Itoa(m.From) + ">" + strconv.Itoa(m.To) + " " + strconv.Quote(m.Bytes[:min(len(m.Bytes), 9)]) + "/" + strconv.Itoa(len(m.Bytes))
	}
	return s
}

func (c call) brief() string {
	if c.kind == send {
		return "send " + brief(c.m)
	}
	return []string{"", "take ", "drop ", "double "}[c.kind] + strconv.Itoa(c.i)
}

// numbers are such as stand for the mediator, for an endpoint, or for none.
func numbers() []int {
	return []int{math.MinInt, math.MinInt32, -257, -9, -8, -3, -2, -1, 0, 1, 2, 3, 4, 5, 6, 7, 8, 9, 255, 256, math.MaxInt32, math.MaxInt}
}

// holds checks that a pool has just l's messages, in order, by all that tells of it.
func holds(t *testing.T, p *pool.Pool, l []api.Message) {
	t.Helper()
	if got := p.All(); !slices.Equal(got, l) {
		t.Fatalf("%s; not %s", brief(got...), brief(l...))
	}
	if n := p.Len(); n != len(l) {
		t.Fatalf("%d messages; not %d", n, len(l))
	}
	var are [10]int // those for -1, 0, .. 8
	for _, m := range l {
		are[m.To+1]++
	}
	for _, n := range numbers() {
		want := 0
		if n >= -1 && n <= 8 {
			want = are[n+1]
		}
		if got := p.Count(n); got != want {
			t.Fatalf("%d messages for %d; not %d of %s", got, n, want, brief(l...))
		}
	}
}

// pair is a pool, and the messages that it is to have.
type pair struct {
	p *pool.Pool
	l []api.Message
}

// checkCalls makes calls of the pool, and holds what each tells, and what is there behind it, against the chapter.
func (a *pair) checkCalls(t *testing.T, calls ...call) {
	t.Helper()
	for _, c := range calls {
		was := a.l
		var want told
		want, a.l = c.plainly(was)
		if got := c.does(a.p); got != want {
			t.Fatalf("%s of %s: %s, %d; not %s, %d", c.brief(), brief(was...), brief(got.m), got.e, brief(want.m), want.e)
		}
		holds(t, a.p, a.l)
	}
}

// of tells a pool with l's messages.
func of(t *testing.T, l ...api.Message) *pair {
	t.Helper()
	a := pair{p: pool.New()}
	for _, m := range l {
		if e := a.p.Send(m); e != api.OK {
			t.Fatalf("send %s: %d", brief(m), e)
		}
	}
	a.l = slices.Clone(l)
	holds(t, a.p, a.l)
	return &a
}

// numbered are n messages, no two alike, to endpoints and from them.
func numbered(n int) []api.Message {
	l := make([]api.Message, n)
	for i := range l {
		if l[i] = to(i%8, strconv.Itoa(i)); i%3 == 0 {
			l[i] = from(i%7, strconv.Itoa(i))
		}
	}
	return l
}
