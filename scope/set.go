package scope

import (
	"cmp"
	"maps"
	"slices"
)

// set has things as its keys; nil has none.
type set[K cmp.Ordered] map[K]struct{}

func setOf[K cmp.Ordered](l ...K) set[K] {
	s := make(set[K], len(l))
	for _, k := range l {
		s[k] = struct{}{}
	}
	return s
}

func (s set[K]) has(k K) bool {
	_, is := s[k]
	return is
}

// either gathers what at least one of two sets has.
func either[K cmp.Ordered](a, b set[K]) set[K] {
	s := make(set[K], len(a)+len(b))
	maps.Copy(s, a)
	maps.Copy(s, b)
	return s
}

// both gathers what each of two sets has.
func both[K cmp.Ordered](a, b set[K]) set[K] {
	s := set[K]{}
	for k := range a {
		if b.has(k) {
			s[k] = struct{}{}
		}
	}
	return s
}

// ordered tells what a set has, rising.
func ordered[K cmp.Ordered](s set[K]) []K {
	var l []K
	for k := range s {
		l = append(l, k)
	}
	slices.Sort(l)
	return l
}
