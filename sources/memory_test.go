package sources_test

import (
	"fmt"
	"testing"

	"legation/api"
	"legation/sources"
)

// roomy tells a list's elements with room behind its end, where others stand.
func roomy[T any](other T, l []T) []T {
	return append(append([]T{}, l...), other, other, other)[:len(l)]
}

// whole tells a list with the room behind its end.
func whole[T any](l []T) string {
	return fmt.Sprintf("%d %+v", len(l), l[:cap(l)])
}

// spoil writes over all of a list's memory, the room behind its end, too, and appends to it.
func spoil[T any](other T, l []T) {
	_ = append(l, other, other)
	l = l[:cap(l)]
	for i := range l {
		l[i] = other
	}
	_ = append(l, other, other)
}

// roomyGroups tells groups all of whose lists have room behind their ends.
func roomyGroups(l []api.Group) []api.Group {
	var told []api.Group
	for _, g := range l {
		told = append(told, api.Group{Patterns: roomy(-5, g.Patterns), Points: roomy(-6, g.Points)})
	}
	return roomy(api.Group{Patterns: []int{-7}}, told)
}

// wholeGroups tells groups with all room behind ends.
func wholeGroups(l []api.Group) string {
	s := whole(l)
	for _, g := range l {
		s += " " + whole(g.Patterns) + whole(g.Points)
	}
	return s
}

// lists tells the lists of numbers that groups have.
func lists(l []api.Group) [][]int {
	var told [][]int
	for _, g := range l {
		told = append(told, g.Patterns, g.Points)
	}
	return told
}

// checkApart checks that no two of some lists share memory: writing over one of them changes no other one.
func checkApart(t *testing.T, l [][]int) {
	t.Helper()
	for i := range l {
		was := fmt.Sprint(l[:i], l[i+1:])
		spoil(-9, l[i])
		if is := fmt.Sprint(l[:i], l[i+1:]); is != was {
			t.Fatalf("list %d shares memory: %s; not %s", i, is, was)
		}
	}
}

// Rule 3: Probe's query is new memory.
func TestProbeMemory(t *testing.T) {
	for _, p := range rightPatterns() {
		q, _ := sources.Probe(p)
		spoil(api.Triple{S: iri("spoilt")}, q.Code[0].Triples)
		spoil(api.Op{Kind: api.OJoin}, q.Code)
		checkProbe(t, p)
	}
}

// Rule 3: Points keeps and changes nothing of its rows, and each list that it tells is its own.
func TestPointsMemory(t *testing.T) {
	want := "[[0] [0 1] [] [1] [0 1] []]"
	var l [][]bool
	for _, row := range answers("+-", "++", "--", "-+", "++", "--") {
		l = append(l, roomy(true, row))
	}
	l = roomy([]bool{true, true}, l)
	was := whole(l)
	first, _ := sources.Points(l, 2)
	second, _ := sources.Points(l, 2)
	third, _ := sources.Points(l, 2)
	checkApart(t, first)
	spoil([]int{-9}, second)
	if got := whole(l); got != was {
		t.Errorf("written into: %s; not %s", got, was)
	}
	for _, row := range l {
		if !row[:cap(row)][2] || !row[:cap(row)][4] {
			t.Error("written behind the end")
		}
		spoil(true, row)
	}
	spoil(nil, l)
	if fmt.Sprint(third) != want {
		t.Errorf("%v; not %s", third, want)
	}
}

// Rule 3: Groups keeps and changes nothing of its points, and each list that it tells is its own.
func TestGroupsMemory(t *testing.T) {
	for _, exclusive := range []bool{false, true} {
		var points [][]int
		for _, l := range [][]int{{0}, {0, 1}, {0}, {}, {2}, {0, 1}, {0}, nil, {2}, {7}} {
			points = append(points, roomy(-4, l))
		}
		points = roomy([]int{-3}, points)
		want, was := fmt.Sprint(plainGroups(points, exclusive)), wholeLists(points)
		first, second, third := sources.Groups(points, exclusive), sources.Groups(points, exclusive), sources.Groups(points, exclusive)
		checkApart(t, lists(first))
		spoil(api.Group{}, second)
		if got := wholeLists(points); got != was {
			t.Errorf("%t: written into: %s; not %s", exclusive, got, was)
		}
		for _, l := range points {
			spoil(-8, l)
		}
		spoil(nil, points)
		if fmt.Sprint(third) != want {
			t.Errorf("%t: %v; not %s", exclusive, third, want)
		}
	}
}

// wholeLists tells lists with all room behind ends.
func wholeLists(l [][]int) string {
	s := whole(l)
	for _, x := range l {
		s += " " + whole(x)
	}
	return s
}

// Rule 3: Touch and Arrange write into nothing, Arrange keeps nothing, and each list that it tells is its own.
func TestArrangeMemory(t *testing.T) {
	for _, reverse := range []bool{false, true} {
		l := roomy(api.Triple{S: variable("a")}, patterns("?a k ?b|?c k ?d|?b k ?c|a k b|?d k ?e|?x k ?y"))
		shared := []int{4, 4, 4, 4}
		g := append(groups([]int{0}, []int{3}, []int{1, 2}, nil, []int{5, 5}, []int{4, 3}), api.Group{Patterns: shared[:2], Points: shared[1:3]}, api.Group{Patterns: shared[:1], Points: shared[:1]})
		g[:7][6].Points = shared // lists that share memory, as they come in
		g = append(roomyGroups(g[:6]), g[6:]...)
		want := fmt.Sprint(plainArrange(l, g, reverse))
		wasL, wasG := whole(l), wholeGroups(g)
		first, _ := sources.Arrange(l, g, reverse)
		second, _ := sources.Arrange(l, g, reverse)
		third, _ := sources.Arrange(l, g, reverse)
		checkTouch(t, l, g)
		if fmt.Sprint(first) != want {
			t.Fatalf("%t: %v; not %s", reverse, first, want)
		}
		checkApart(t, lists(first))
		spoil(api.Group{}, second)
		if whole(l) != wasL || wholeGroups(g) != wasG {
			t.Errorf("%t: written into: %s, %s; not %s, %s", reverse, whole(l), wholeGroups(g), wasL, wasG)
		}
		for _, x := range lists(g) {
			spoil(-8, x)
		}
		spoil(api.Group{}, g)
		spoil(api.Triple{}, l)
		if fmt.Sprint(third) != want {
			t.Errorf("%t: %v; not %s", reverse, third, want)
		}
	}
}

// Rule 3: what is refused writes into nothing.
func TestRefusedMemory(t *testing.T) {
	l := roomy(api.Triple{S: variable("a")}, patterns("?a k ?b|?b k ?c"))
	g := roomyGroups(groups([]int{1}, []int{0, 1}, []int{2}))
	wasL, wasG := whole(l), wholeGroups(g)
	refuses(t, l, g)
	if whole(l) != wasL || wholeGroups(g) != wasG {
		t.Errorf("written into: %s, %s; not %s, %s", whole(l), wholeGroups(g), wasL, wasG)
	}
}
