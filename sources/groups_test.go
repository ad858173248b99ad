package sources_test

import (
	"fmt"
	"math"
	"testing"

	"legation/api"
	"legation/sources"
)

// answers are rows in which + is true and - is false.
func answers(rows ...string) [][]bool {
	var l [][]bool
	for _, s := range rows {
		row := []bool{}
		for i := range len(s) {
			row = append(row, s[i] == '+')
		}
		l = append(l, row)
	}
	return l
}

// P20.1: the points of patterns at some endpoints, at none, and at as many as there may be.
func TestPoints(t *testing.T) {
	for _, x := range []struct {
		rows   []string
		points int
		want   string
	}{
		{[]string{"+-", "++", "--", "-+"}, 2, "[[0] [0 1] [] [1]]"},
		{[]string{"+"}, 1, "[[0]]"},
		{[]string{"-"}, 1, "[[]]"},
		{[]string{"-", "+", "-"}, 1, "[[] [0] []]"},
		{[]string{"", "", ""}, 0, "[[] [] []]"},
		{[]string{"++++++++", "--------", "+------+", "-+-+-+-+"}, 8, "[[0 1 2 3 4 5 6 7] [] [0 7] [1 3 5 7]]"},
		{nil, 0, "[]"},
		{nil, 1, "[]"},
		{nil, 8, "[]"},
	} {
		got, e := sources.Points(answers(x.rows...), x.points)
		if fmt.Sprint(got) != x.want || len(got) != len(x.rows) || e != api.OK {
			t.Errorf("%v: %v, %d", x, got, e)
		}
	}
	if got, e := sources.Points([][]bool{nil, {}, nil}, 0); fmt.Sprint(got) != "[[] [] []]" || e != api.OK {
		t.Errorf("%v, %d", got, e)
	}
}

// P20.1: each row that may be answered of each number of endpoints, alone and behind another one.
func TestPointsEach(t *testing.T) {
	for points := range api.MaxPoints + 1 {
		for bits := range 1 << points {
			row, other := make([]bool, points), make([]bool, points)
			for i := range row {
				row[i], other[i] = bits>>i&1 == 1, bits*37>>i&1 == 1
			}
			l := [][]bool{other, row}
			if got, e := sources.Points(l, points); fmt.Sprint(got) != fmt.Sprint(plainPoints(l)) || e != api.OK {
				t.Fatalf("%v: %v, %d", l, got, e)
			}
		}
	}
}

// P20.1: a row of answers that is shorter than there are endpoints, or longer, is ErrForm, wherever it stands.
func TestPointsWrong(t *testing.T) {
	for points := range api.MaxPoints + 1 {
		for long := range api.MaxPoints + 3 {
			for at := range 3 {
				l := [][]bool{make([]bool, points), make([]bool, points), make([]bool, points)}
				l[at] = make([]bool, long)
				want := api.ErrForm
				if long == points {
					want = api.OK
				}
				got, e := sources.Points(l, points)
				if e != want || (e != api.OK && got != nil) {
					t.Errorf("%v of %d: %v, %d", l, points, got, e)
				}
			}
		}
	}
	for _, rows := range [][]string{{"+", "+-", "+"}, {"+-", "+"}, {"", "+"}, {"+", ""}} {
		if got, e := sources.Points(answers(rows...), 1); len(got) != 0 || e != api.ErrForm {
			t.Errorf("%q: %v, %d", rows, got, e)
		}
	}
}

// P20.1: fewer endpoints than 0, or more than MaxPoints, are ErrRange, ahead of what rows there are.
func TestPointsRange(t *testing.T) {
	lists := [][][]bool{nil, {}, {nil}, {{}}, answers("+"), answers("+-", "+"), answers("+--------", "---------"), answers("++++++++")}
	for _, points := range []int{-1, api.MaxPoints + 1, -2, 10, math.MinInt, math.MinInt32, math.MaxInt32, math.MaxInt, 1 << 32, 1<<32 + 1} {
		for _, l := range lists {
			if got, e := sources.Points(l, points); len(got) != 0 || e != api.ErrRange {
				t.Errorf("%v of %d: %v, %d", l, points, got, e)
			}
		}
	}
}

// P20.1: the chapter's example, and groups of patterns with one endpoint, with several and with none.
func TestGroups(t *testing.T) {
	for _, x := range []struct {
		points          [][]int
		exclusive, each string
	}{
		{[][]int{{0}, {0, 1}, {0}}, "[{[0 2] [0]} {[1] [0 1]}]", "[{[0] [0]} {[1] [0 1]} {[2] [0]}]"},
		{nil, "[]", "[]"},
		{[][]int{}, "[]", "[]"},
		{[][]int{nil}, "[{[0] []}]", "[{[0] []}]"},
		{[][]int{{}, nil, {}}, "[{[0] []} {[1] []} {[2] []}]", "[{[0] []} {[1] []} {[2] []}]"},
		{[][]int{{3}}, "[{[0] [3]}]", "[{[0] [3]}]"},
		{[][]int{{3}, {3}, {3}}, "[{[0 1 2] [3]}]", "[{[0] [3]} {[1] [3]} {[2] [3]}]"},
		{[][]int{{7}, {0}}, "[{[0] [7]} {[1] [0]}]", "[{[0] [7]} {[1] [0]}]"},
		{[][]int{{1}, {0}, {1}, {0}}, "[{[0 2] [1]} {[1 3] [0]}]", "[{[0] [1]} {[1] [0]} {[2] [1]} {[3] [0]}]"},
		{[][]int{{0, 1}, {0, 1}}, "[{[0] [0 1]} {[1] [0 1]}]", "[{[0] [0 1]} {[1] [0 1]}]"},
		{[][]int{{}, {5}, {2, 5}, {2}, {5}, {2, 5}, {}, {2}, {5}}, "[{[0] []} {[1 4 8] [5]} {[2] [2 5]} {[3 7] [2]} {[5] [2 5]} {[6] []}]",
			"[{[0] []} {[1] [5]} {[2] [2 5]} {[3] [2]} {[4] [5]} {[5] [2 5]} {[6] []} {[7] [2]} {[8] [5]}]"},
		{[][]int{{0}, {1}, {2}, {3}, {4}, {5}, {6}, {7}}, "[{[0] [0]} {[1] [1]} {[2] [2]} {[3] [3]} {[4] [4]} {[5] [5]} {[6] [6]} {[7] [7]}]",
			"[{[0] [0]} {[1] [1]} {[2] [2]} {[3] [3]} {[4] [4]} {[5] [5]} {[6] [6]} {[7] [7]}]"},
		{[][]int{{math.MaxInt}, {math.MinInt}, {-1}, {math.MaxInt}, {-1}}, "[{[0 3] [9223372036854775807]} {[1] [-9223372036854775808]} {[2 4] [-1]}]",
			"[{[0] [9223372036854775807]} {[1] [-9223372036854775808]} {[2] [-1]} {[3] [9223372036854775807]} {[4] [-1]}]"},
	} {
		if got := fmt.Sprint(sources.Groups(x.points, true)); got != x.exclusive {
			t.Errorf("%v, exclusive: %s; not %s", x.points, got, x.exclusive)
		}
		if got := fmt.Sprint(sources.Groups(x.points, false)); got != x.each {
			t.Errorf("%v: %s; not %s", x.points, got, x.each)
		}
		checkGroups(t, x.points)
	}
}

// P20.1, P20.3: each row of up to five patterns out of some points.
func TestGroupsEach(t *testing.T) {
	some := [][]int{nil, {0}, {1}, {0, 1}, {7}}
	for n := range 6 {
		rows := 1
		for range n {
			rows *= len(some)
		}
		for row := range rows {
			points := make([][]int, n)
			for i := range points {
				points[i] = some[row%len(some)]
				row /= len(some)
			}
			checkGroups(t, points)
		}
	}
}

// P20.1: an endpoint that stands twice among a pattern's points, or points that do not rise, are told as they are; P20.3 holds of them, too.
func TestGroupsOdd(t *testing.T) {
	points := [][]int{{0, 0}, {0}, {1, 0}, {0, 0}, {0}, {0, 1}}
	if got := fmt.Sprint(sources.Groups(points, true)); got != "[{[0] [0 0]} {[1 4] [0]} {[2] [1 0]} {[3] [0 0]} {[5] [0 1]}]" {
		t.Error(got)
	}
	checkGroups(t, points)
}
