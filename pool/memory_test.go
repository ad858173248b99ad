package pool_test

import (
	"slices"
	"testing"

	"legation/api"
	"legation/pool"
)

// spoil writes over all of a list's memory, the room behind its end, too, and appends to it.
func spoil(l []api.Message) {
	_ = append(l, to(5, "appended"), to(5, "appended"))
	l = l[:cap(l)]
	for i := range l {
		l[i] = to(5, "spoilt")
	}
	_ = append(l, to(5, "appended"))
}

// Rule 3: what All tells is new memory: writing over it, or appending to it, changes neither the pool nor a later answer.
func TestNewMemory(t *testing.T) {
	for seed, kinds := range mixes() {
		g := newGrower(uint64(2000+seed), kinds...)
		a := of(t)
		for range 400 {
			first, second := a.p.All(), a.p.All()
			spoil(first)
			if !slices.Equal(second, a.l) {
				t.Fatalf("two answers share memory: %s; not %s", brief(second...), brief(a.l...))
			}
			holds(t, a.p, a.l)
			a.checkCalls(t, g.call(len(a.l)))
			spoil(second)
			holds(t, a.p, a.l)
		}
	}
}

// Rule 3: a pool that is changed later leaves what All told as it was.
func TestToldStays(t *testing.T) {
	for _, n := range []int{0, 1, 2, 7, 8, 255, 256} {
		a := of(t, numbered(n)...)
		got, was := a.p.All(), slices.Clone(a.l)
		for i := range a.l {
			a.p.Drop(i / 2)
			a.p.Send(to(3, "new"))
			a.p.Double(i)
			if !slices.Equal(got, was) {
				t.Fatalf("%d: %s; not %s", n, brief(got...), brief(was...))
			}
		}
		for range n {
			a.p.Drop(0)
		}
		for range api.MaxPool {
			a.p.Send(to(3, "new"))
		}
		if !slices.Equal(got, was) {
			t.Fatalf("%d: %s; not %s", n, brief(got...), brief(was...))
		}
	}
}

// Rule 3: two pools share nothing, whatever calls of one stand between calls of the other.
func TestApart(t *testing.T) {
	g := newGrower(3000, mixes()[1]...)
	pairs := []*pair{of(t), of(t), of(t)}
	for range 3000 {
		a := pairs[g.r.IntN(len(pairs))]
		a.checkCalls(t, g.call(len(a.l)))
		for _, other := range pairs {
			holds(t, other.p, other.l)
		}
	}
}

// Rule 4: the same calls are told the same, however much room a pool once had.
func TestNothingKept(t *testing.T) {
	used := of(t, numbered(api.MaxPool)...)
	takesAll(t, used.p, used.l)
	p := pool.New()
	g := newGrower(3001, mixes()[1]...)
	for range 2000 {
		c := g.call(p.Len())
		one, other := c.does(p), c.does(used.p)
		if one != other {
			t.Fatalf("%s: %s, %d; %s, %d", c.brief(), brief(one.m), one.e, brief(other.m), other.e)
		}
		holds(t, used.p, p.All())
	}
}
