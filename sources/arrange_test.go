package sources_test

import (
	"fmt"
	"testing"

	"legation/api"
	"legation/sources"
)

// P20.2: groups of one pattern each touch by a variable in any place of either.
func TestTouchPlaces(t *testing.T) {
	at := func(place int) api.Triple {
		terms := []api.Term{iri("a"), iri("k"), iri("b")}
		terms[place] = variable("x")
		return api.Triple{S: terms[0], P: terms[1], O: terms[2]}
	}
	for i := range 3 {
		for j := range 3 {
			l := []api.Triple{at(i), at(j)}
			if !sources.Touch(l, group(0), group(1)) || !sources.Touch(l, group(1), group(0)) {
				t.Errorf("%v: they touch", l)
			}
		}
	}
}

// P20.2: what touches, and what does not.
func TestTouch(t *testing.T) {
	l := patterns(`?a k ?b|?c k ?d|?b k ?c|a k b|?x ?y ?z|?e ?e "f|"a k "b|?A k ?B|a k "?a`)
	for _, x := range []struct {
		a, b []int
		want bool
	}{
		{[]int{0}, []int{2}, true},
		{[]int{2}, []int{0}, true},
		{[]int{0}, []int{1}, false},
		{[]int{0, 1}, []int{2}, true},
		{[]int{3, 3, 1}, []int{4, 2}, true},
		{[]int{0}, []int{0}, true},
		{[]int{5}, []int{5}, true},
		{[]int{3}, []int{3}, false}, // without variables not even itself
		{[]int{0, 3}, []int{3, 1}, false},
		{[]int{4}, []int{0, 1, 2, 3, 5, 6}, false},
		{[]int{0}, []int{7}, false}, // a name is taken letter by letter
		{[]int{0}, []int{8}, false}, // a literal is no variable
		{[]int{3}, []int{8}, false}, // nor is an IRI that both have
		{nil, nil, false},
		{nil, []int{0}, false},
		{[]int{0}, nil, false},
		{[]int{0, 0}, []int{2, 2, 2}, true},
	} {
		if got := sources.Touch(l, group(x.a...), group(x.b...)); got != x.want {
			t.Errorf("%v: %t", x, got)
		}
		if got := plainTouch(l, group(x.a...), group(x.b...)); got != x.want {
			t.Errorf("%v, plainly: %t", x, got)
		}
	}
	if sources.Touch(nil, group(), group()) || sources.Touch(nil, group(0), group(0)) {
		t.Error("no patterns: nothing touches")
	}
	if sources.Touch(l, api.Group{Patterns: []int{0}, Points: []int{1}}, api.Group{Patterns: []int{1}, Points: []int{1}}) {
		t.Error("an endpoint is no variable")
	}
}

// P20.2: a place that is none counts as a pattern without variables.
func TestTouchNoPlace(t *testing.T) {
	l := patterns("?a k ?b|?b k ?c|?x k ?y")
	for _, n := range append(numbers(), -len(l), 3, 4, 1<<32, 1<<32+1) {
		if n >= 0 && n < len(l) {
			continue
		}
		if sources.Touch(l, group(n), group(n)) || sources.Touch(l, group(n), group(0, 1, 2)) || sources.Touch(l, group(0, 1, 2), group(n)) {
			t.Errorf("%d touches", n)
		}
		if !sources.Touch(l, group(n, 0), group(1, n)) || !sources.Touch(l, group(0, n), group(n, 1)) || sources.Touch(l, group(0, n), group(n, 2)) {
			t.Errorf("%d beside places that are there", n)
		}
	}
}

// P20.2: arrangements from the first on and from the last on; a group is told by its place among those that were handed in.
func TestArrange(t *testing.T) {
	for _, x := range []struct {
		patterns         string
		forth, backwards string
	}{
		{"", "[]", "[]"},
		{"?a k ?b", "[0]", "[0]"},
		{"a k b|a k b|a k b", "[0 1 2]", "[2 1 0]"},
		{"?a k ?b|?c k ?d|?b k ?c", "[0 2 1]", "[2 1 0]"},
		{"?a k ?b|?b k ?c|?c k ?d", "[0 1 2]", "[2 1 0]"},
		{"?a k ?b|?c k ?d|?e k ?f", "[0 1 2]", "[2 1 0]"}, // nothing hangs together
		{"?a k ?b|?c k ?d|?a k ?e|?c k ?f", "[0 2 1 3]", "[3 1 2 0]"},
		{"?a k b|a k b|?a k c|a k c", "[0 2 1 3]", "[3 2 0 1]"},                  // a group without variables is taken in its turn
		{"?d k ?e|?c k ?d|?b k ?c|?a k ?b", "[0 1 2 3]", "[3 2 1 0]"},            // each next one is reached by the last one alone
		{"?a k ?b|?x k ?y|?c k ?d|?b k ?c|?y k b", "[0 3 2 1 4]", "[4 1 3 2 0]"}, // one of the left that comes late reaches one ahead of it
		{"?a k b|?c k ?d|?d k ?a|?c k ?e", "[0 2 1 3]", "[3 1 2 0]"},
		{"?a ?a ?a|?b k ?c|b ?a c", "[0 2 1]", "[2 0 1]"},
		{"?a k ?b|?z k ?z|?b k ?c|?a k ?c", "[0 2 3 1]", "[3 2 0 1]"}, // behind what hangs together comes the first one that is left
	} {
		l := patterns(x.patterns)
		g := alone(len(l))
		for reverse, want := range map[bool]string{false: x.forth, true: x.backwards} {
			got, e := sources.Arrange(l, g, reverse)
			if s := fmt.Sprint(places(got)); s != want || e != api.OK {
				t.Errorf("%s, %t: %s, %d; not %s", x.patterns, reverse, s, e, want)
			}
		}
		checkArrange(t, l, g)
		checkTouch(t, l, g)
	}
}

// places tells of groups which ones they are, by the points that groups gave them.
func places(l []api.Group) []int {
	var told []int
	for _, g := range l {
		told = append(told, g.Points[0]-100)
	}
	return told
}

// P20.2: groups of several patterns, of none, of a place that stands twice, and of places that other groups have, too.
func TestArrangeLists(t *testing.T) {
	l := patterns("?a k ?b|?c k ?d|?b k ?c|a k b|?d k ?e|?x k ?y")
	for _, x := range []struct {
		lists            [][]int
		forth, backwards string
	}{
		{[][]int{{}, {}, {}}, "[0 1 2]", "[2 1 0]"},
		{[][]int{{0}, nil, {2}}, "[0 2 1]", "[2 0 1]"},
		{[][]int{{0, 0, 0}, {1, 1}, {2, 2}}, "[0 2 1]", "[2 1 0]"},
		{[][]int{{0}, {0}, {5}, {0}}, "[0 1 3 2]", "[3 1 0 2]"},
		{[][]int{{3}, {5, 3}, {3, 0}, {5}}, "[0 1 3 2]", "[3 1 2 0]"},
		{[][]int{{5, 0}, {1}, {3, 2}, {5}}, "[0 2 1 3]", "[3 0 2 1]"},
		{[][]int{{4}, {0, 5}, {3}, {1, 2}}, "[0 3 1 2]", "[3 1 0 2]"},
		{[][]int{{0, 1, 2, 3, 4, 5}, {}, {5}, {3}}, "[0 2 1 3]", "[3 2 0 1]"},
		{[][]int{{5, 4, 3, 2, 1, 0}}, "[0]", "[0]"},
	} {
		g := groups(x.lists...)
		for reverse, want := range map[bool]string{false: x.forth, true: x.backwards} {
			got, e := sources.Arrange(l, g, reverse)
			if s := fmt.Sprint(places(got)); s != want || e != api.OK {
				t.Errorf("%v, %t: %s, %d; not %s", x.lists, reverse, s, e, want)
			}
		}
		checkArrange(t, l, g)
		checkTouch(t, l, g)
	}
}

// P20.2: no groups, no patterns, and neither; groups without patterns need none.
func TestArrangeNone(t *testing.T) {
	for _, l := range [][]api.Triple{nil, {}, patterns("?a k ?b"), patterns("?a k ?b|?b k ?c")} {
		for _, g := range [][]api.Group{nil, {}, {{}}, {{}, {}}, groups(nil, []int{}, nil)} {
			checkArrange(t, l, g)
		}
	}
}

// P20.2: a group's places and points are told as they are, in their order, whatever points these are.
func TestArrangeAsIs(t *testing.T) {
	l := patterns("?a k ?b|?c k ?d|?b k ?c")
	g := []api.Group{{Patterns: []int{1, 0, 1}, Points: numbers()}, {Patterns: []int{2}}, {Points: []int{3, 3, 1}}, {Patterns: []int{0}, Points: []int{-1}}, {Patterns: []int{0}, Points: []int{-1}}}
	got, e := sources.Arrange(l, g, false)
	if want := []api.Group{g[0], g[1], g[3], g[4], g[2]}; fmt.Sprint(got) != fmt.Sprint(want) || e != api.OK {
		t.Errorf("%v, %d; not %v", got, e, want)
	}
	got, e = sources.Arrange(l, g, true)
	if want := []api.Group{g[4], g[3], g[1], g[0], g[2]}; fmt.Sprint(got) != fmt.Sprint(want) || e != api.OK {
		t.Errorf("%v, %d; not %v", got, e, want)
	}
	checkArrange(t, l, g)
}

// P20.2: each row of four patterns out of some, a group each, and in two groups.
func TestArrangeEach(t *testing.T) {
	some := patterns("a k b|?a k b|?a k ?b|?b ?c b|?c k ?d|?d ?d ?d|e ?e ?a")
	rows, together := 7*7*7*7, 0
	for row := range rows {
		l := make([]api.Triple, 4)
		for i := range l {
			l[i] = some[row%len(some)]
			row /= len(some)
		}
		if checkArrange(t, l, alone(4)) {
			together++
		}
		checkTouch(t, l, alone(4))
		checkArrange(t, l, groups([]int{0, 1}, []int{2}, []int{3, 1}))
	}
	if together < 200 || together > rows-200 {
		t.Errorf("%d of %d hang together", together, rows)
	}
}
