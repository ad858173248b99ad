package sources_test

import (
	"testing"

	"legation/api"
	"legation/sources"
)

// refuses checks that Arrange answers ErrForm, and no groups, from either end on.
func refuses(t *testing.T, l []api.Triple, groups []api.Group) {
	t.Helper()
	for _, reverse := range []bool{false, true} {
		if got, e := sources.Arrange(l, groups, reverse); got != nil || e != api.ErrForm {
			t.Errorf("%v of %.300v, %t: %v, %d", groups, l, reverse, got, e)
		}
	}
}

// P20.2: a pattern that is not right is refused, wherever it stands, whether a group has it or not.
func TestArrangeWrongPattern(t *testing.T) {
	for _, p := range wrongPatterns() {
		refuses(t, []api.Triple{p}, nil)
		refuses(t, []api.Triple{p}, alone(1))
		for at := range 3 {
			l := patterns("?a k ?b|?b k ?c|?c k ?d")
			l[at] = p
			refuses(t, l, nil)
			refuses(t, l, alone(3))
			refuses(t, l, groups([]int{(at + 1) % 3}, []int{(at + 2) % 3}))
			refuses(t, l, groups([]int{3}))
		}
	}
}

// P20.2: a place that is none in l is refused, in whichever group it stands, and wherever there.
func TestArrangeWrongPlace(t *testing.T) {
	all := patterns("?a k ?b|?b k ?c|?c k ?d")
	for n := range len(all) + 1 {
		l := all[:n]
		for _, at := range append(numbers(), -n, n-1, n, n+1, 1<<32, 1<<32+n) {
			lists := [][]api.Group{groups([]int{at}), groups([]int{at, at}), groups(nil, []int{at}), groups([]int{at}, nil)}
			if n > 0 {
				lists = append(lists, groups([]int{0, at}), groups([]int{at, n - 1}), groups([]int{0}, []int{n - 1, at, 0}, []int{0}), groups([]int{0}, []int{n - 1}, []int{at}), groups([]int{at}, []int{0}))
			}
			for _, g := range lists {
				if at < 0 || at >= n {
					refuses(t, l, g)
				} else {
					checkArrange(t, l, g)
				}
			}
		}
	}
}

// P20.2: what lies in the room behind the end of l is none of its patterns.
func TestArrangeRoom(t *testing.T) {
	l := patterns("?a k ?b|?b k ?c|?c k ?d")[:2]
	refuses(t, l, alone(3))
	if sources.Touch(l, group(1), group(2)) || sources.Touch(l, group(2), group(2)) {
		t.Error("a pattern behind the end touches")
	}
	l = append(patterns("?a k ?b|?b k ?c"), api.Triple{})[:2]
	checkArrange(t, l, alone(2))
}

// P20.2: Touch tells of patterns that are not right, too, and panics of nothing.
func TestTouchWrong(t *testing.T) {
	for _, p := range wrongPatterns() {
		l := append(patterns("?a k ?b|a k b"), p)
		for _, n := range append(numbers(), 2, 3) {
			sources.Touch(l, group(n, 2), group(n))
			if sources.Touch(l, group(n, 2), group(1)) {
				t.Errorf("%.200v touches what has no variable", p)
			}
		}
	}
}
