package pool_test

import (
	"math/rand/v2"
	"strconv"
	"testing"

	"legation/api"
	"legation/pool"
)

// grower grows calls by chance.
type grower struct {
	r     *rand.Rand
	kinds []int // out of which a call's is taken: what stands more often comes more often
	wrong []api.Message
}

func newGrower(seed uint64, kinds ...int) *grower {
	return &grower{r: rand.New(rand.NewPCG(19, seed)), kinds: kinds, wrong: wrong()}
}

// mixes are kinds of calls with which pools grow, with which they shrink, and with which they stay small.
func mixes() [][]int {
	return [][]int{
		{send, take, drop, double},
		{send, send, send, take, drop, double, double},
		{send, send, take},
		{send, double, double, double, drop, take},
		{send, send, take, take, drop, drop, double},
		{send, send, send, send, send, send, double, double, double, take},
	}
}

// message grows a message out of few, so that the same comes often; now and then one that is not right.
func (g *grower) message() api.Message {
	if g.r.IntN(12) == 0 {
		return g.wrong[g.r.IntN(len(g.wrong))]
	}
	s := strconv.Itoa(g.r.IntN(4))
	if g.r.IntN(2) == 0 {
		return to(g.r.IntN(8), s)
	}
	return from(g.r.IntN(8), s)
}

// place grows a place of a pool with n messages, at its ends more often; now and then one that is none.
func (g *grower) place(n int) int {
	switch g.r.IntN(10) {
	case 0:
		return numbers()[g.r.IntN(len(numbers()))]
	case 1:
		return 0
	case 2, 3:
		return n - 1 + g.r.IntN(2)
	}
	return g.r.IntN(n + 1)
}

func (g *grower) call(n int) call {
	c := call{kind: g.kinds[g.r.IntN(len(g.kinds))]}
	if c.kind == send {
		c.m = g.message()
	} else {
		c.i = g.place(n)
	}
	return c
}

// P19.1, P19.2: of grown rows of calls, each is told what a plain list of messages would tell, and leaves what it would leave.
func TestGrown(t *testing.T) {
	full := 0
	for seed, kinds := range mixes() {
		for round := range 8 {
			g := newGrower(uint64(100*seed+round), kinds...)
			a := of(t)
			for range 700 {
				a.checkCalls(t, g.call(len(a.l)))
				if len(a.l) == api.MaxPool {
					full++
				}
			}
		}
	}
	if full < 500 {
		t.Errorf("full just %d times", full)
	}
}

// P19.3: what was sent and doubled, less what was taken and dropped, is there, as often: by what the calls told alone.
func TestAsOften(t *testing.T) {
	for seed, kinds := range mixes() {
		g := newGrower(uint64(1000+seed), kinds...)
		p := pool.New()
		often := map[api.Message]int{}
		for range 3000 {
			c, was := g.call(p.Len()), p.All()
			got := c.does(p)
			switch {
			case got.e != api.OK:
			case c.kind == send:
				often[c.m]++
			case c.kind == double:
				often[was[c.i]]++
			case c.kind == take:
				often[got.m]--
			case c.kind == drop:
				often[was[c.i]]--
			}
			checkOften(t, p, often)
		}
	}
}

// checkOften holds a pool's messages, in no order, against how often each is to be there.
func checkOften(t *testing.T, p *pool.Pool, often map[api.Message]int) {
	t.Helper()
	are, n := map[api.Message]int{}, 0
	for _, m := range p.All() {
		are[m]++
	}
	for m, k := range often {
		if are[m] != k {
			t.Fatalf("%s: %d times; not %d", brief(m), are[m], k)
		}
		n += k
	}
	if n != p.Len() {
		t.Fatalf("%d messages; not %d", p.Len(), n)
	}
}

// takesAll takes all messages one by one from the first place, and checks that they come in that order.
func takesAll(t *testing.T, p *pool.Pool, want []api.Message) {
	t.Helper()
	for i, m := range want {
		if got, e := p.Take(0); got != m || e != api.OK {
			t.Fatalf("%d of %d: %s, %d; not %s", i, len(want), brief(got), e, brief(m))
		}
	}
	if m, e := p.Take(0); m != (api.Message{}) || e != api.ErrNone {
		t.Fatalf("behind the last one: %s, %d", brief(m), e)
	}
	holds(t, p, nil)
}

// P19.4: messages come in the order in which they were sent, also in a pool that was full, was emptied and is filled again.
func TestInOrder(t *testing.T) {
	p := pool.New()
	for _, n := range []int{0, 1, 2, 3, 256, 255, 256, 1, 256, 17} {
		l := numbered(n)
		for _, m := range l {
			if e := p.Send(m); e != api.OK {
				t.Fatalf("%d: %d", n, e)
			}
		}
		takesAll(t, p, l)
	}
}

// P19.4: so they do, while others are sent behind them, however many passed through.
func TestInOrderOnTheWay(t *testing.T) {
	g := newGrower(19)
	l := numbered(6000)
	p, sent, taken := pool.New(), 0, 0
	for sent < len(l) {
		for range g.r.IntN(300) {
			if sent == len(l) || p.Send(l[sent]) != api.OK {
				break
			}
			sent++
		}
		for range g.r.IntN(300) {
			m, e := p.Take(0)
			if e != api.OK {
				break
			}
			if m != l[taken] {
				t.Fatalf("%s; not %s", brief(m), brief(l[taken]))
			}
			taken++
		}
		holds(t, p, l[taken:sent])
	}
	takesAll(t, p, l[taken:])
}

// P19.4: what was dropped or taken elsewhere leaves the others' order as it was; what was doubled comes where it was doubled.
func TestInOrderOfOthers(t *testing.T) {
	a := of(t, numbered(api.MaxPool)...)
	for i := 254; i >= 0; i -= 3 {
		a.checkCalls(t, call{kind: take, i: i}, call{kind: drop, i: i / 2})
	}
	for i := range 40 {
		a.checkCalls(t, call{kind: double, i: i}, call{kind: send, m: to(i%8, "new")})
	}
	takesAll(t, a.p, a.l)
}
