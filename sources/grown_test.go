package sources_test

import (
	"fmt"
	"math/rand/v2"
	"strconv"
	"testing"

	"legation/api"
	"legation/sources"
)

// grower grows patterns, answers and groups by chance.
type grower struct {
	r     *rand.Rand
	names int // of how many names a variable's is taken: few of them touch often
}

func newGrower(seed uint64, names int) *grower {
	return &grower{r: rand.New(rand.NewPCG(20, seed)), names: names}
}

// term grows a variable, or now and then an IRI.
func (g *grower) term() api.Term {
	if g.r.IntN(5) < 2 {
		return iri("a")
	}
	return variable("v" + strconv.Itoa(g.r.IntN(g.names)))
}

func (g *grower) patterns(n int) []api.Triple {
	var l []api.Triple
	for range n {
		p := api.Triple{S: g.term(), P: iri("k"), O: g.term()}
		if g.r.IntN(8) == 0 {
			p.P = g.term()
		}
		l = append(l, p)
	}
	return l
}

// answers grows rows of so many answers, many of them with just one endpoint.
func (g *grower) answers(n, points int) [][]bool {
	l := make([][]bool, n)
	for i := range l {
		l[i] = make([]bool, points)
		for range g.r.IntN(3) {
			if points > 0 {
				l[i][g.r.IntN(points)] = true
			}
		}
		for j := range l[i] {
			l[i][j] = l[i][j] || g.r.IntN(20) == 0
		}
	}
	return l
}

// groups grows some of n patterns, in any order, and as often as it comes.
func (g *grower) groups(n int) []api.Group {
	var l []api.Group
	for range g.r.IntN(9) {
		var x api.Group
		for range g.r.IntN(4) {
			if n > 0 {
				x.Patterns = append(x.Patterns, g.r.IntN(n))
			}
		}
		for range g.r.IntN(3) {
			x.Points = append(x.Points, g.r.IntN(8))
		}
		l = append(l, x)
	}
	return l
}

// P20.1 to P20.5: of grown patterns and answers, from these to the arrangement, each call is told what the chapter says.
func TestGrown(t *testing.T) {
	several, together, apart := 0, 0, 0
	for round := range 2500 {
		g := newGrower(uint64(round), 1+round%9)
		n, points := g.r.IntN(13), g.r.IntN(api.MaxPoints+1)
		l, rows := g.patterns(n), g.answers(n, points)
		at, e := sources.Points(rows, points)
		if fmt.Sprint(at) != fmt.Sprint(plainPoints(rows)) || len(at) != n || e != api.OK {
			t.Fatalf("%v: %v, %d", rows, at, e)
		}
		checkGroups(t, at)
		for _, exclusive := range []bool{false, true} {
			made := sources.Groups(at, exclusive)
			checkTouch(t, l, made)
			switch hung := checkArrange(t, l, made); {
			case hung && len(made) > 3:
				together++
			case !hung:
				apart++
			}
			for _, x := range made {
				if len(x.Patterns) > 1 {
					several++
				}
			}
		}
	}
	if several < 500 || together < 300 || apart < 300 {
		t.Errorf("%d groups of several, %d rows that hang together, %d that do not", several, together, apart)
	}
}

// P20.2, P20.4, P20.5: grown groups of any patterns, which may stand in several of them, and in none.
func TestGrownLists(t *testing.T) {
	for round := range 3000 {
		g := newGrower(uint64(10000+round), 2+round%9)
		l := g.patterns(g.r.IntN(9))
		made := g.groups(len(l))
		checkTouch(t, l, made)
		checkArrange(t, l, made)
	}
}

// P20.2: of grown groups one of which has a place that is none, nothing is told.
func TestGrownWrong(t *testing.T) {
	for round := range 1000 {
		g := newGrower(uint64(20000+round), 4)
		l := g.patterns(g.r.IntN(6))
		made := append(g.groups(len(l)), api.Group{Patterns: []int{len(l) + g.r.IntN(3)}})
		if round%2 == 0 {
			made[len(made)-1].Patterns[0] = -1 - g.r.IntN(3)
		}
		g.r.Shuffle(len(made), func(i, j int) { made[i], made[j] = made[j], made[i] })
		refuses(t, l, made)
	}
}

// Rule 4: the same call tells the same each time, however maps are gone through.
func TestSameEachTime(t *testing.T) {
	g := newGrower(30000, 30)
	l := g.patterns(60)
	var points [][]int
	for i := range l {
		points = append(points, []int{i * 7 % 20})
	}
	made := sources.Groups(points, true)
	if len(made) != 20 {
		t.Fatalf("%d groups", len(made))
	}
	forth, _ := sources.Arrange(l, made, false)
	back, _ := sources.Arrange(l, made, true)
	was := fmt.Sprint(made, forth, back)
	for range 300 {
		again := sources.Groups(points, true)
		forth, _ := sources.Arrange(l, again, false)
		back, _ := sources.Arrange(l, again, true)
		if got := fmt.Sprint(again, forth, back); got != was {
			t.Fatalf("%s; not %s", got, was)
		}
	}
}

// Rule 1: of many patterns and groups each call ends, and tells what it is to: groups that hang on one variable, in a row from either end, and not at all.
func TestMany(t *testing.T) {
	const n = 1 << 13
	name := func(i int) api.Term { return variable("v" + strconv.Itoa(i)) }
	one, row, none := make([]api.Triple, n), make([]api.Triple, n), make([]api.Triple, n)
	points, forth, back := make([][]int, n), make([]int, n), make([]int, n)
	for i := range n {
		one[i] = api.Triple{S: variable("x"), P: iri("k"), O: name(i)}
		row[i] = api.Triple{S: name(i), P: iri("k"), O: name(i + 1)}
		none[i] = api.Triple{S: name(i), P: iri("k"), O: iri("a")}
		points[i] = []int{i % 100}
		forth[i], back[i] = i, n-1-i
	}
	for _, l := range [][]api.Triple{one, row, none} {
		for reverse, want := range map[bool][]int{false: forth, true: back} {
			got, e := sources.Arrange(l, alone(n), reverse)
			if fmt.Sprint(places(got)) != fmt.Sprint(want) || e != api.OK {
				t.Errorf("%v, %t: %d", l[1], reverse, e)
			}
		}
	}
	all := group(forth...)
	if !sources.Touch(one, all, group(n-1)) || sources.Touch(none, group(forth[:n-1]...), group(n-1)) {
		t.Error("touch")
	}
	made := sources.Groups(points, true)
	if len(made) != 100 || len(made[0].Patterns) != 82 || len(sources.Groups(points, false)) != n {
		t.Errorf("%d groups", len(made))
	}
}
