package tests

import (
	"math"
	"slices"
	"testing"

	"loop.example/g00596/impl"
)

// belowBySearch tells for each two concepts whether all objects of the one are objects of the other one.
func belowBySearch(c impl.Context) [][]bool {
	concepts := conceptsBySearch(c)
	below := make([][]bool, len(concepts))
	for a, lower := range concepts {
		below[a] = make([]bool, len(concepts))
		for b, upper := range concepts {
			below[a][b] = true
			for g, in := range membersOf(lower.Extent) {
				if in && !membersOf(upper.Extent)[g] {
					below[a][b] = false
				}
			}
		}
	}
	return below
}

// turned returns the order upside down.
func turned(below [][]bool) [][]bool {
	other := make([][]bool, len(below))
	for a := range below {
		other[a] = make([]bool, len(below))
		for b := range below {
			other[a][b] = below[b][a]
		}
	}
	return other
}

// coversBySearch lists the concepts that a is below, but no concept in between is.
func coversBySearch(below [][]bool, a int) []int {
	var covers []int
	for b := range below {
		between := 0
		for x := range below {
			if x != a && x != b && below[a][x] && below[x][b] {
				between++
			}
		}
		if a != b && below[a][b] && between == 0 {
			covers = append(covers, b)
		}
	}
	return covers
}

// meetBySearch returns the concept below both that all others below both are below.
func meetBySearch(t *testing.T, below [][]bool, a, b int) int {
	t.Helper()
	var found []int
	for x := range below {
		greatest := below[x][a] && below[x][b]
		for y := range below {
			if below[y][a] && below[y][b] && !below[y][x] {
				greatest = false
			}
		}
		if greatest {
			found = append(found, x)
		}
	}
	if len(found) != 1 {
		t.Fatalf("%d and %d have the meets %v", a, b, found)
	}
	return found[0]
}

// stepsUp returns the greatest number of steps upwards from a.
func stepsUp(below [][]bool, a int, known map[int]int) int {
	if steps, ok := known[a]; ok {
		return steps
	}
	steps := 0
	for b := range below {
		if a != b && below[a][b] {
			steps = max(steps, 1+stepsUp(below, b, known))
		}
	}
	known[a] = steps
	return steps
}

// noConceptNumbers lists numbers that are no concepts where there are size of them; there are never more than 64.
func noConceptNumbers(size int) []int {
	return []int{
		-1, -2, -7, -size, -size - 1, -64, -65, size, size + 1, 2 * size, 64, 65, 127, 128, 256,
		1 << 32, size + 1<<32, 1<<32 - 1, math.MaxInt, math.MaxInt - 63, math.MinInt, math.MinInt + 1, math.MinInt + size,
	}
}

// rejectsConceptNumbers checks the results for numbers of which no concept has the index, alone and together with a.
func rejectsConceptNumbers(t *testing.T, c impl.Context, a int, numbers []int) {
	t.Helper()
	for _, x := range numbers {
		if upper, lower := impl.UpperCovers(c, x), impl.LowerCovers(c, x); len(upper) != 0 || len(lower) != 0 {
			t.Fatalf("%d of %v has the covers %v and %v", x, c, upper, lower)
		}
		for _, pair := range [][2]int{{x, a}, {a, x}, {x, x}} {
			if impl.IsBelow(c, pair[0], pair[1]) {
				t.Fatalf("IsBelow(%v, %d, %d) = true", c, pair[0], pair[1])
			}
			if got := impl.MeetOf(c, pair[0], pair[1]); got != -1 {
				t.Fatalf("MeetOf(%v, %d, %d) = %d, want -1", c, pair[0], pair[1], got)
			}
			if got := impl.JoinOf(c, pair[0], pair[1]); got != -1 {
				t.Fatalf("JoinOf(%v, %d, %d) = %d, want -1", c, pair[0], pair[1], got)
			}
		}
	}
}

// example4 returns the context 4 ab,b,bc,cd, whose concepts have the intents -, c, cd, b, bc, ab and abcd.
func example4() impl.Context { return context(4, 3, 2, 6, 12) }

func TestBelowInContexts(t *testing.T) {
	cases := []struct {
		c     impl.Context
		pairs [][2]int
	}{
		{example4(), [][2]int{{1, 0}, {2, 0}, {2, 1}, {3, 0}, {4, 0}, {4, 1}, {4, 3}, {5, 0}, {5, 3}, {6, 0}, {6, 1}, {6, 2}, {6, 3}, {6, 4}, {6, 5}}},
		{context(3, 1, 3, 7), [][2]int{{1, 0}, {2, 0}, {2, 1}}},
		{context(2, 1, 2), [][2]int{{1, 0}, {2, 0}, {3, 0}, {3, 1}, {3, 2}}},
		{context(2, 3, 3), nil},
		{context(2), nil},
	}
	for _, k := range cases {
		size := len(impl.Concepts(k.c))
		for a := range size {
			for b := range size {
				want := a == b || slices.Contains(k.pairs, [2]int{a, b})
				if got := impl.IsBelow(k.c, a, b); got != want {
					t.Errorf("IsBelow(%v, %d, %d) = %v", k.c, a, b, got)
				}
			}
		}
	}
}

func TestBelowByItsDefinition(t *testing.T) {
	for _, c := range derivationContexts() {
		below := belowBySearch(c)
		for a := range below {
			if !impl.IsBelow(c, a, a) {
				t.Fatalf("%d is not below itself in %v", a, c)
			}
			for b := range below {
				if got := impl.IsBelow(c, a, b); got != below[a][b] {
					t.Fatalf("IsBelow(%v, %d, %d) = %v", c, a, b, got)
				}
			}
		}
	}
}

func TestCoversOfContexts(t *testing.T) {
	cases := []struct {
		c            impl.Context
		upper, lower [][]int
	}{
		{example4(), [][]int{{}, {0}, {1}, {0}, {1, 3}, {3}, {2, 4, 5}}, [][]int{{1, 3}, {2, 4}, {6}, {4, 5}, {6}, {6}, {}}},
		{context(3, 1, 3, 7), [][]int{{}, {0}, {1}}, [][]int{{1}, {2}, {}}},
		{context(2, 1, 2), [][]int{{}, {0}, {0}, {1, 2}}, [][]int{{1, 2}, {3}, {3}, {}}},
		{context(3, 6, 5, 3), [][]int{{}, {0}, {0}, {1, 2}, {0}, {1, 4}, {2, 4}, {3, 5, 6}}, [][]int{{1, 2, 4}, {3, 5}, {3, 6}, {7}, {5, 6}, {7}, {7}, {}}},
		{context(2, 3, 3), [][]int{{}}, [][]int{{}}},
		{context(0), [][]int{{}}, [][]int{{}}},
	}
	for _, k := range cases {
		for a := range k.upper {
			if got := impl.UpperCovers(k.c, a); !slices.Equal(got, k.upper[a]) {
				t.Errorf("UpperCovers(%v, %d) = %v, want %v", k.c, a, got, k.upper[a])
			}
			if got := impl.LowerCovers(k.c, a); !slices.Equal(got, k.lower[a]) {
				t.Errorf("LowerCovers(%v, %d) = %v, want %v", k.c, a, got, k.lower[a])
			}
		}
	}
}

// Promise 6: no concept is in between, and none without one in between is left out.
func TestCoversByTheirDefinition(t *testing.T) {
	for _, c := range derivationContexts() {
		below := belowBySearch(c)
		above := turned(below)
		edges := 0
		for a := range below {
			upper, lower := coversBySearch(below, a), coversBySearch(above, a)
			if got := impl.UpperCovers(c, a); !slices.Equal(got, upper) {
				t.Fatalf("UpperCovers(%v, %d) = %v, want %v", c, a, got, upper)
			}
			if got := impl.LowerCovers(c, a); !slices.Equal(got, lower) {
				t.Fatalf("LowerCovers(%v, %d) = %v, want %v", c, a, got, lower)
			}
			edges += len(upper)
		}
		if got := impl.CountEdges(c); got != edges {
			t.Fatalf("CountEdges(%v) = %d, want %d", c, got, edges)
		}
	}
}

func TestBoundsInAContext(t *testing.T) {
	c := example4()
	meets := [][]int{
		{0, 1, 2, 3, 4, 5, 6},
		{1, 1, 2, 4, 4, 6, 6},
		{2, 2, 2, 6, 6, 6, 6},
		{3, 4, 6, 3, 4, 5, 6},
		{4, 4, 6, 4, 4, 6, 6},
		{5, 6, 6, 5, 6, 5, 6},
		{6, 6, 6, 6, 6, 6, 6},
	}
	joins := [][]int{
		{0, 0, 0, 0, 0, 0, 0},
		{0, 1, 1, 0, 1, 0, 1},
		{0, 1, 2, 0, 1, 0, 2},
		{0, 0, 0, 3, 3, 3, 3},
		{0, 1, 1, 3, 4, 3, 4},
		{0, 0, 0, 3, 3, 5, 5},
		{0, 1, 2, 3, 4, 5, 6},
	}
	for a := range meets {
		for b := range meets {
			if got := impl.MeetOf(c, a, b); got != meets[a][b] {
				t.Errorf("MeetOf(%v, %d, %d) = %d, want %d", c, a, b, got, meets[a][b])
			}
			if got := impl.JoinOf(c, a, b); got != joins[a][b] {
				t.Errorf("JoinOf(%v, %d, %d) = %d, want %d", c, a, b, got, joins[a][b])
			}
		}
	}
}

// Promise 6, with the order that the program tells itself.
func TestMeetsAndJoinsAreTheGreatestAndTheLeastBounds(t *testing.T) {
	for _, c := range derivationContexts() {
		size := len(impl.Concepts(c))
		below := make([][]bool, size)
		for a := range below {
			below[a] = make([]bool, size)
			for b := range below[a] {
				below[a][b] = impl.IsBelow(c, a, b)
			}
		}
		for a := range below {
			for b := range below {
				meet, join := impl.MeetOf(c, a, b), impl.JoinOf(c, a, b)
				if meet < 0 || meet >= size || join < 0 || join >= size {
					t.Fatalf("%d and %d of %v have the meet %d and the join %d", a, b, c, meet, join)
				}
				if !below[meet][a] || !below[meet][b] || !below[a][join] || !below[b][join] {
					t.Fatalf("the meet %d or the join %d of %d and %d of %v is no bound", meet, join, a, b, c)
				}
				for x := range below {
					if below[x][a] && below[x][b] && !below[x][meet] {
						t.Fatalf("%d is below %d and %d of %v, but not below their meet %d", x, a, b, c, meet)
					}
					if below[a][x] && below[b][x] && !below[join][x] {
						t.Fatalf("%d is above %d and %d of %v, but not above their join %d", x, a, b, c, join)
					}
				}
			}
		}
	}
}

// Promise 6, with an order and bounds found without the program.
func TestBoundsByTheirDefinition(t *testing.T) {
	for _, c := range derivationContexts() {
		below := belowBySearch(c)
		above := turned(below)
		for a := range below {
			for b := range a + 1 {
				meet, join := meetBySearch(t, below, a, b), meetBySearch(t, above, a, b)
				if one, other := impl.MeetOf(c, a, b), impl.MeetOf(c, b, a); one != meet || other != meet {
					t.Fatalf("MeetOf of %d and %d in %v is %d and %d, want %d", a, b, c, one, other, meet)
				}
				if one, other := impl.JoinOf(c, a, b), impl.JoinOf(c, b, a); one != join || other != join {
					t.Fatalf("JoinOf of %d and %d in %v is %d and %d, want %d", a, b, c, one, other, join)
				}
			}
		}
	}
}

// The objects of the meet are those of both concepts, and the attributes of the join are.
func TestBoundsAreCommonParts(t *testing.T) {
	for _, c := range sampleContexts() {
		concepts := conceptsBySearch(c)
		for a, x := range concepts {
			for b, y := range concepts {
				meet, join := impl.MeetOf(c, a, b), impl.JoinOf(c, a, b)
				if concepts[meet].Extent != x.Extent&y.Extent {
					t.Fatalf("the meet of %v and %v in %v is %v", x, y, c, concepts[meet])
				}
				if concepts[join].Intent != x.Intent&y.Intent {
					t.Fatalf("the join of %v and %v in %v is %v", x, y, c, concepts[join])
				}
			}
		}
	}
}

// The bounds of a concept with the top or the bottom are one of the two.
func TestTopAndBottom(t *testing.T) {
	for _, c := range derivationContexts() {
		below := belowBySearch(c)
		top, bottom := impl.TopOf(c), impl.BottomOf(c)
		if top < 0 || top >= len(below) || bottom < 0 || bottom >= len(below) {
			t.Fatalf("%v has the top %d and the bottom %d", c, top, bottom)
		}
		for a := range below {
			if !below[a][top] || !below[bottom][a] {
				t.Fatalf("the top %d or the bottom %d of %v is none for %d", top, bottom, c, a)
			}
			if impl.MeetOf(c, a, top) != a || impl.JoinOf(c, bottom, a) != a || impl.MeetOf(c, bottom, a) != bottom || impl.JoinOf(c, a, top) != top {
				t.Fatalf("the bounds of %d with the top or the bottom of %v are wrong", a, c)
			}
		}
		if up, down := impl.UpperCovers(c, top), impl.LowerCovers(c, bottom); len(up) != 0 || len(down) != 0 {
			t.Fatalf("%v has %v above its top and %v below its bottom", c, up, down)
		}
	}
}

func TestHeightsAndEdges(t *testing.T) {
	cases := []struct {
		context             string
		top, bottom         int
		height, edges, size int
	}{
		{"4 ab,b,bc,cd", 0, 6, 3, 9, 7},
		{"3 ab,bc,ac", 0, 7, 3, 12, 8},
		{"3 a,ab,abc", 0, 2, 2, 2, 3},
		{"4 abc,abd,acd,bcd", 0, 15, 4, 32, 16},
		{"2 a,b", 0, 3, 2, 4, 4},
		{"3 a,b,c", 0, 4, 2, 6, 5},
		{"6 a,b,c,d,e,f", 0, 7, 2, 12, 8},
		{"3 ab,c", 0, 3, 2, 4, 4},
		{"3 ab,a,c", 0, 4, 3, 5, 5},
		{"6 bcdef,cdef,def,ef,f,-,-,-", 0, 6, 6, 6, 7},
		{"2 none", 0, 0, 0, 0, 1},
		{"0 -", 0, 0, 0, 0, 1},
		{"0 none", 0, 0, 0, 0, 1},
		{"2 ab,ab", 0, 0, 0, 0, 1},
		{"1 -", 0, 1, 1, 1, 2},
		{"6 -,-,-,-,-,-,-,-", 0, 1, 1, 1, 2},
	}
	for _, k := range cases {
		c, ok := impl.ParseContext(k.context)
		if size := len(impl.Concepts(c)); !ok || size != k.size {
			t.Errorf("%s has %d concepts, want %d", k.context, size, k.size)
		}
		if top, bottom := impl.TopOf(c), impl.BottomOf(c); top != k.top || bottom != k.bottom {
			t.Errorf("%s has the top %d and the bottom %d, want %d and %d", k.context, top, bottom, k.top, k.bottom)
		}
		if height, edges := impl.HeightOf(c), impl.CountEdges(c); height != k.height || edges != k.edges {
			t.Errorf("%s has the height %d and %d edges, want %d and %d", k.context, height, edges, k.height, k.edges)
		}
	}
}

func TestHeightByItsDefinition(t *testing.T) {
	for _, c := range derivationContexts() {
		below := belowBySearch(c)
		want, known := 0, map[int]int{}
		for a := range below {
			want = max(want, stepsUp(below, a, known))
		}
		if got := impl.HeightOf(c); got != want {
			t.Fatalf("HeightOf(%v) = %d, want %d", c, got, want)
		}
	}
}

// Where every set of attributes is closed, there are 64 concepts, and a step downwards adds one attribute.
func TestTheGreatestLattice(t *testing.T) {
	c := context(6, 62, 61, 59, 55, 47, 31, 63, 0)
	concepts := impl.Concepts(c)
	place := map[int]int{}
	for a, x := range concepts {
		place[x.Intent] = a
	}
	for a, x := range concepts {
		var upper, lower []int
		for e := range 6 {
			power := 1 << e
			if membersOf(x.Intent)[e] {
				upper = append(upper, place[x.Intent-power])
			} else {
				lower = append(lower, place[x.Intent+power])
			}
		}
		slices.Sort(upper)
		slices.Sort(lower)
		if got := impl.UpperCovers(c, a); !slices.Equal(got, upper) {
			t.Errorf("UpperCovers(%v, %d) = %v, want %v", c, a, got, upper)
		}
		if got := impl.LowerCovers(c, a); !slices.Equal(got, lower) {
			t.Errorf("LowerCovers(%v, %d) = %v, want %v", c, a, got, lower)
		}
		for b, y := range concepts {
			if got, want := impl.MeetOf(c, a, b), place[x.Intent|y.Intent]; got != want {
				t.Errorf("MeetOf(%v, %d, %d) = %d, want %d", c, a, b, got, want)
			}
			if got, want := impl.JoinOf(c, a, b), place[x.Intent&y.Intent]; got != want {
				t.Errorf("JoinOf(%v, %d, %d) = %d, want %d", c, a, b, got, want)
			}
		}
	}
	if top, bottom, height, edges := impl.TopOf(c), impl.BottomOf(c), impl.HeightOf(c), impl.CountEdges(c); top != 0 || bottom != 63 || height != 6 || edges != 192 {
		t.Errorf("%v has the top %d, the bottom %d, the height %d and %d edges", c, top, bottom, height, edges)
	}
}

// A concept alone is the top, the bottom and all bounds.
func TestOneConceptAlone(t *testing.T) {
	var list []impl.Context
	for n := range 7 {
		full := 1<<n - 1
		list = append(list, context(n), impl.Context{Attributes: n, Rows: []int{}})
		rows := []int{}
		for range 8 {
			rows = append(rows, full)
			list = append(list, context(n, slices.Clone(rows)...))
		}
	}
	for _, c := range list {
		if len(impl.Concepts(c)) != 1 {
			t.Fatalf("%v has more than one concept", c)
		}
		if !impl.IsBelow(c, 0, 0) || impl.MeetOf(c, 0, 0) != 0 || impl.JoinOf(c, 0, 0) != 0 || impl.TopOf(c) != 0 || impl.BottomOf(c) != 0 {
			t.Errorf("the concept of %v is not above and below itself", c)
		}
		if upper, lower := impl.UpperCovers(c, 0), impl.LowerCovers(c, 0); len(upper) != 0 || len(lower) != 0 {
			t.Errorf("the concept of %v has the covers %v and %v", c, upper, lower)
		}
		if height, edges := impl.HeightOf(c), impl.CountEdges(c); height != 0 || edges != 0 {
			t.Errorf("%v has the height %d and %d edges", c, height, edges)
		}
		rejectsConceptNumbers(t, c, 0, noConceptNumbers(1))
	}
}

func TestConceptsThatDoNotExist(t *testing.T) {
	for i, c := range append(derivationContexts(), context(2), context(0, 0)) {
		size := len(conceptsBySearch(c))
		for _, a := range []int{0, size - 1, i % size} {
			rejectsConceptNumbers(t, c, a, noConceptNumbers(size))
		}
		// Every index behind the last one and before the first one, not only the chosen ones.
		for x := size; x < 70 && i%10 == 0; x++ {
			rejectsConceptNumbers(t, c, 0, []int{x, -1 - x, -x})
		}
	}
}

// Where both are missing, they may be different ones.
func TestTwoConceptsThatDoNotExist(t *testing.T) {
	for _, c := range []impl.Context{example4(), context(2), context(0), context(6, 62, 61, 59, 55, 47, 31, 63, 0)} {
		numbers := noConceptNumbers(len(conceptsBySearch(c)))
		for _, a := range numbers {
			rejectsConceptNumbers(t, c, a, numbers)
		}
	}
}

func TestLatticesWithoutAContext(t *testing.T) {
	for _, c := range append(noContexts(), context(2, 3, 3, 4), context(9), context(-1)) {
		if top, bottom, height := impl.TopOf(c), impl.BottomOf(c), impl.HeightOf(c); top != -1 || bottom != -1 || height != -1 {
			t.Errorf("%v has the top %d, the bottom %d and the height %d, want -1", c, top, bottom, height)
		}
		if got := impl.CountEdges(c); got != 0 {
			t.Errorf("CountEdges(%v) = %d, want 0", c, got)
		}
		for _, a := range []int{0, 1, 2, 5, 63} {
			rejectsConceptNumbers(t, c, a, append(noConceptNumbers(0), 0, 1, 2, 3, 7, 31, 63))
		}
	}
}

// Promise 31 for chapter 6.
func TestLatticesKeepTheirRows(t *testing.T) {
	kept := []int{3, 6, 5, 0, 7, 1, 2, 4, 3, 9, -1}
	for size := range len(kept) + 1 {
		rows := slices.Clone(kept)
		c := context(3, rows[:size]...)
		for a := -1; a <= 9; a++ {
			for b := -1; b <= 9; b++ {
				impl.IsBelow(c, a, b)
				impl.MeetOf(c, a, b)
				impl.JoinOf(c, a, b)
			}
			impl.UpperCovers(c, a)
			impl.LowerCovers(c, a)
		}
		impl.TopOf(c)
		impl.BottomOf(c)
		impl.HeightOf(c)
		impl.CountEdges(c)
		if !slices.Equal(rows, kept) {
			t.Errorf("the rows of a context of %d objects are changed to %v", size, rows)
		}
	}
}

// Promise 31 for chapter 6.
func TestCoversAreNewEachTime(t *testing.T) {
	c := example4()
	for _, covers := range []func(impl.Context, int) []int{impl.UpperCovers, impl.LowerCovers} {
		for a := range 7 {
			want := slices.Clone(covers(c, a))
			first, second := covers(c, a), covers(c, a)
			for i := range first[:cap(first)] {
				first[:cap(first)][i] = -9
			}
			if !slices.Equal(second, want) || !slices.Equal(covers(c, a), want) {
				t.Errorf("writing into the covers of %d changes others", a)
			}
		}
	}
	third := impl.UpperCovers(c, 6)
	c.Rows[0] = 15
	if !slices.Equal(third, []int{2, 4, 5}) {
		t.Errorf("writing into the rows changes covers to %v", third)
	}
}
