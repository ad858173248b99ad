package pool

import (
	"slices"
	"testing"

	"legation/api"
)

// A row is cut at each place, of any things, and nothing of what left it lies behind its end.
func TestCut(t *testing.T) {
	for n := 1; n < 20; n++ {
		for at := range n {
			r := make(row[string], n)
			var want []string
			for i := range r {
				r[i] = string(rune('a' + i))
				if i != at {
					want = append(want, r[i])
				}
			}
			got := cut(r, at)
			if !slices.Equal(got, want) || cap(got) != n || got[:n][n-1] != "" {
				t.Errorf("%d of %d: %q, %q", at, n, got, got[:cap(got)])
			}
		}
	}
}

// What left a pool is let go: behind its last message nothing lies.
func TestLetGo(t *testing.T) {
	p := New()
	for i := range 40 {
		p.Send(api.Message{From: i % 8, To: -1, Bytes: "a"})
	}
	for range 20 { // each time two leave
		p.Take(p.Len() / 3)
		p.Drop(p.Len() / 2)
		for _, m := range p.messages[p.Len():cap(p.messages)] {
			if m != (api.Message{}) {
				t.Fatalf("%v is kept", m)
			}
		}
	}
	if p.Len() != 0 {
		t.Errorf("%d messages", p.Len())
	}
}
