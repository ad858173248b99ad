package store

import (
	"legation/api"
	"legation/term"
)

const places = 3 // of a triple; and so many lists, one in order from each place on

// compare tells by -1, 0 or 1 which of two triples is ahead by n of their terms, from a place on and round. List 0 of a store is so in the order S P O (layer 3), list 1 in P O S, list 2 in O S P: whichever terms a pattern gives, in one of these they weigh more than the others, and what has them stands in one piece.
func compare(a, b api.Triple, from, n int) int {
	x, y := terms(a), terms(b)
	for i := range n {
		at := (from + i) % places
		if x[at] != y[at] {
			return term.Compare(x[at], y[at])
		}
	}
	return 0
}

func terms(t api.Triple) [places]api.Term {
	return [places]api.Term{t.S, t.P, t.O}
}
