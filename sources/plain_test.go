package sources_test

import (
	"fmt"
	"math"
	"strings"
	"testing"

	"legation/api"
	"legation/sources"
)

// Patterns are written as words, three each, with strokes between: what begins with a question mark is a variable, with a quote a literal, all else an IRI. Lists and groups are held against each other as fmt prints them, to which nil and an empty list are alike: a group is {[its patterns] [its points]}.

func iri(s string) api.Term      { return api.Term{Kind: api.Iri, Text: s} }
func literal(s string) api.Term  { return api.Term{Kind: api.Literal, Text: s} }
func blank(s string) api.Term    { return api.Term{Kind: api.Blank, Text: s} }
func variable(s string) api.Term { return api.Term{Kind: api.Var, Text: s} }

// word tells the term of a word.
func word(s string) api.Term {
	switch s[0] {
	case '?':
		return variable(s[1:])
	case '"':
		return literal(s[1:])
	}
	return iri(s)
}

// patterns tells those that a text stands for.
func patterns(s string) []api.Triple {
	var l []api.Triple
	for _, p := range strings.Split(s, "|") {
		if w := strings.Fields(p); len(w) > 0 {
			l = append(l, api.Triple{S: word(w[0]), P: word(w[1]), O: word(w[2])})
		}
	}
	return l
}

// group tells one of those patterns, without points.
func group(places ...int) api.Group { return api.Group{Patterns: places} }

// groups tells one for each list of patterns, each with a point of its own, so that no two are alike.
func groups(lists ...[]int) []api.Group {
	var l []api.Group
	for i, places := range lists {
		l = append(l, api.Group{Patterns: places, Points: []int{100 + i}})
	}
	return l
}

// alone tells as many groups of one pattern each.
func alone(n int) []api.Group {
	var lists [][]int
	for i := range n {
		lists = append(lists, []int{i})
	}
	return groups(lists...)
}

// numbers are such as stand for an endpoint or a place, or for none.
func numbers() []int {
	return []int{math.MinInt, math.MinInt32, -9, -2, -1, 0, 1, 2, 7, 8, 9, 256, math.MaxInt32, math.MaxInt}
}

// wrongPatterns are patterns that are not right, for each way in which chapter 3 refuses one: a term of a kind that may not stand there, of none, and one that is not right itself.
func wrongPatterns() []api.Triple {
	wrong := []api.Term{
		{}, {Text: "a"}, {Kind: -1, Text: "a"}, {Kind: 5, Text: "a"}, {Kind: math.MaxInt, Text: "a"},
		blank("a"), blank(""),
		iri(""), iri("a b"), iri("<a>"), iri("é"), iri(strings.Repeat("i", api.MaxText+1)), {Kind: api.Iri, Text: "a", Type: "t"}, {Kind: api.Iri, Text: "a", Lang: "en"},
		variable(""), variable("?x"), variable("1x"), variable("x y"), variable(strings.Repeat("v", 33)), {Kind: api.Var, Text: "x", Type: "t"}, {Kind: api.Var, Text: "x", Lang: "en"},
	}
	wrongObjects := append([]api.Term{
		literal("é"), literal("\x00"), literal(strings.Repeat("l", api.MaxText+1)),
		{Kind: api.Literal, Text: "a", Type: "t t"}, {Kind: api.Literal, Text: "a", Lang: "EN"}, {Kind: api.Literal, Text: "a", Type: "t", Lang: "en"},
	}, wrong...)
	wrong = append(wrong, literal("a"), literal("é"))
	var l []api.Triple
	for _, p := range patterns("a b c|?x ?y ?z|?x b \"c") {
		for _, x := range wrong {
			l = append(l, api.Triple{S: x, P: p.P, O: p.O}, api.Triple{S: p.S, P: x, O: p.O}, api.Triple{S: x, P: x, O: x})
		}
		for _, x := range wrongObjects {
			l = append(l, api.Triple{S: p.S, P: p.P, O: x})
		}
	}
	return append(l, api.Triple{})
}

// plainPoints tells what the chapter says of right answers.
func plainPoints(answers [][]bool) [][]int {
	l := make([][]int, len(answers))
	for point := range api.MaxPoints {
		for i := range answers {
			if point < len(answers[i]) && answers[i][point] {
				l[i] = append(l[i], point)
			}
		}
	}
	return l
}

// plainGroups tells what the chapter says of points.
func plainGroups(points [][]int, exclusive bool) []api.Group {
	var l []api.Group
	in := make([]bool, len(points))
	just := func(i, point int) bool { return len(points[i]) == 1 && points[i][0] == point }
	for i := range points {
		if in[i] {
			continue
		}
		g := api.Group{Patterns: []int{i}, Points: points[i]}
		for j := i + 1; j < len(points) && exclusive && len(points[i]) == 1; j++ {
			if just(j, points[i][0]) {
				g.Patterns = append(g.Patterns, j)
				in[j] = true
			}
		}
		l = append(l, g)
	}
	return l
}

// plainHas tells whether the pattern at a place, if there is one, has a variable.
func plainHas(l []api.Triple, at int, name string) bool {
	if at < 0 || at >= len(l) {
		return false
	}
	for _, x := range []api.Term{l[at].S, l[at].P, l[at].O} {
		if x.Kind == api.Var && x.Text == name {
			return true
		}
	}
	return false
}

// plainTouch tells what the chapter says of two groups.
func plainTouch(l []api.Triple, a, b api.Group) bool {
	for _, p := range l {
		for _, x := range []api.Term{p.S, p.P, p.O} {
			inA, inB := false, false
			for _, at := range a.Patterns {
				inA = inA || plainHas(l, at, x.Text)
			}
			for _, at := range b.Patterns {
				inB = inB || plainHas(l, at, x.Text)
			}
			if x.Kind == api.Var && inA && inB {
				return true
			}
		}
	}
	return false
}

// plainArrange tells what the chapter says of groups, step by step.
func plainArrange(l []api.Triple, groups []api.Group, reverse bool) []api.Group {
	var left []int
	for i := range groups {
		left = append(left, i)
		if reverse {
			left[i] = len(groups) - 1 - i
		}
	}
	var told []api.Group
	for len(left) > 0 {
		at := 0
	search:
		for i, n := range left {
			for _, other := range told {
				if plainTouch(l, groups[n], other) {
					at = i
					break search
				}
			}
		}
		told = append(told, groups[left[at]])
		left = append(left[:at:at], left[at+1:]...)
	}
	return told
}

// checkGroups holds what Groups tells of points against the chapter, and P20.3.
func checkGroups(t *testing.T, points [][]int) {
	t.Helper()
	for _, exclusive := range []bool{false, true} {
		got := sources.Groups(points, exclusive)
		if want := plainGroups(points, exclusive); fmt.Sprint(got) != fmt.Sprint(want) {
			t.Fatalf("groups of %v, %t: %v; not %v", points, exclusive, got, want)
		}
		often := make([]int, len(points))
		for _, g := range got {
			for _, i := range g.Patterns {
				if often[i]++; fmt.Sprint(points[i]) != fmt.Sprint(g.Points) {
					t.Fatalf("groups of %v, %t: %v: pattern %d has other points", points, exclusive, got, i)
				}
			}
		}
		for i, n := range often {
			if n != 1 {
				t.Fatalf("groups of %v, %t: %v: pattern %d stands %d times", points, exclusive, got, i, n)
			}
		}
	}
}

// checkTouch holds what Touch tells of each two groups, either way round, against the chapter.
func checkTouch(t *testing.T, l []api.Triple, groups []api.Group) {
	t.Helper()
	for _, a := range groups {
		for _, b := range groups {
			if got, want := sources.Touch(l, a, b), plainTouch(l, a, b); got != want {
				t.Fatalf("touch of %v and %v of %v: %t", a, b, l, got)
			}
		}
	}
}

// checkArrange holds what Arrange tells of groups, from either end on, against the chapter, P20.4 and P20.5; it tells whether all of them hang together.
func checkArrange(t *testing.T, l []api.Triple, groups []api.Group) bool {
	t.Helper()
	together := hang(l, groups)
	for _, reverse := range []bool{false, true} {
		got, e := sources.Arrange(l, groups, reverse)
		if want := plainArrange(l, groups, reverse); fmt.Sprint(got) != fmt.Sprint(want) || e != api.OK {
			t.Fatalf("arrangement of %v of %v, %t: %v, %d; not %v", groups, l, reverse, got, e, want)
		}
		checkSame(t, got, groups)
		for i := 1; i < len(got) && together; i++ {
			if !touchesOne(l, got[i], got[:i]) {
				t.Fatalf("arrangement of %v of %v, %t: %v: %d touches none ahead of it", groups, l, reverse, got, i)
			}
		}
	}
	return together
}

// checkSame checks that two rows have the same groups, each as often.
func checkSame(t *testing.T, got, want []api.Group) {
	t.Helper()
	often := map[string]int{}
	for _, g := range got {
		often[fmt.Sprint(g)]++
	}
	for _, g := range want {
		often[fmt.Sprint(g)]--
	}
	for s, n := range often {
		if n != 0 {
			t.Fatalf("%v; not %v: %s", got, want, s)
		}
	}
}

// touchesOne tells whether a group touches one of those.
func touchesOne(l []api.Triple, g api.Group, others []api.Group) bool {
	for _, other := range others {
		if plainTouch(l, g, other) {
			return true
		}
	}
	return false
}

// hang tells whether all groups hang together by touching: whether from the first one on all are reached.
func hang(l []api.Triple, groups []api.Group) bool {
	if len(groups) == 0 {
		return true
	}
	reached := make([]bool, len(groups))
	reached[0] = true
	count := 1
	for grew := true; grew; {
		grew = false
		for i := range groups {
			for j := range groups {
				if reached[i] && !reached[j] && plainTouch(l, groups[i], groups[j]) {
					reached[j], grew = true, true
					count++
				}
			}
		}
	}
	return count == len(groups)
}
