package tests

import (
	"slices"
	"strings"
	"testing"

	"loop.example/g00596/impl"
)

// containsAll reports whether other has every element of members.
func containsAll(other, members [8]bool) bool {
	for e := range members {
		if members[e] && !other[e] {
			return false
		}
	}
	return true
}

// columnBySearch returns the members of a column.
func columnBySearch(c impl.Context, m int) [8]bool {
	var column [8]bool
	for g, row := range c.Rows {
		column[g] = membersOf(row)[m]
	}
	return column
}

// hasDownArrow looks for a larger object that lacks the attribute as well.
func hasDownArrow(c impl.Context, g, m int) bool {
	own := membersOf(c.Rows[g])
	for _, row := range c.Rows {
		other := membersOf(row)
		if other != own && containsAll(other, own) && !other[m] {
			return false
		}
	}
	return !own[m]
}

// hasUpArrow looks for an attribute with a larger column that the object lacks as well.
func hasUpArrow(c impl.Context, g, m int) bool {
	own := columnBySearch(c, m)
	for n := range c.Attributes {
		other := columnBySearch(c, n)
		if other != own && containsAll(other, own) && !other[g] {
			return false
		}
	}
	return !own[g]
}

// signsBySearch returns the signs of an object.
func signsBySearch(c impl.Context, g int) string {
	line := ""
	for m := range c.Attributes {
		down, up := hasDownArrow(c, g, m), hasUpArrow(c, g, m)
		switch {
		case membersOf(c.Rows[g])[m]:
			line += "x"
		case down && up:
			line += "*"
		case down:
			line += "v"
		case up:
			line += "^"
		default:
			line += "."
		}
	}
	return line
}

// placesOfSigns returns the set of the places in the line that have one of the signs.
func placesOfSigns(line, signs string) int {
	s, power := 0, 1
	for i := range len(line) {
		if strings.Contains(signs, line[i:i+1]) {
			s += power
		}
		power *= 2
	}
	return s
}

// checkArrows compares all that chapter 8 says of a context with the signs of its objects.
func checkArrows(t *testing.T, c impl.Context, lines []string) {
	t.Helper()
	if got := impl.ArrowText(c); !slices.Equal(got, lines) {
		t.Fatalf("ArrowText(%v) = %q, want %q", c, got, lines)
	}
	inUp := 0
	for g, line := range lines {
		down, up, double := placesOfSigns(line, "v*"), placesOfSigns(line, "^*"), placesOfSigns(line, "*")
		if got := impl.DownArrows(c, g); got != down {
			t.Fatalf("DownArrows(%v, %d) = %d, want %d", c, g, got, down)
		}
		if got := impl.UpArrows(c, g); got != up {
			t.Fatalf("UpArrows(%v, %d) = %d, want %d", c, g, got, up)
		}
		if got := impl.DoubleArrows(c, g); got != double {
			t.Fatalf("DoubleArrows(%v, %d) = %d, want %d", c, g, got, double)
		}
		if got := impl.IsIrreducibleObject(c, g); got != (down != 0) {
			t.Fatalf("IsIrreducibleObject(%v, %d) = %v", c, g, got)
		}
		inUp |= up
	}
	for m := range c.Attributes {
		if got := impl.IsIrreducibleAttribute(c, m); got != membersOf(inUp)[m] {
			t.Fatalf("IsIrreducibleAttribute(%v, %d) = %v", c, m, got)
		}
	}
}

func TestArrowsOfContexts(t *testing.T) {
	cases := []struct {
		context string
		lines   []string
	}{
		{"4 ab,b,bc,cd", []string{"xx*v", "^x^.", "*xx*", "v*xx"}},
		{"3 abc,ab,a", []string{"xxx", "xx*", "x*."}},
		{"3 a,ab,abc", []string{"x*.", "xx*", "xxx"}},
		{"3 ab,bc,ac", []string{"xx*", "*xx", "x*x"}},
		{"4 abc,abd,acd,bcd", []string{"xxx*", "xx*x", "x*xx", "*xxx"}},
		// Full rows and full columns, alone and beside others.
		{"1 a", []string{"x"}},
		{"3 abc,abc", []string{"xxx", "xxx"}},
		{"2 ab,a", []string{"xx", "x*"}},
		{"2 ab,-", []string{"xx", "**"}},
		{"3 ab,ac", []string{"xx*", "x*x"}},
		{"3 abc,a,b", []string{"xxx", "x*v", "*xv"}},
		// Empty rows, and an empty column.
		{"1 -", []string{"*"}},
		{"2 -", []string{"**"}},
		{"2 -,-", []string{"**", "**"}},
		{"2 -,a", []string{"*.", "x*"}},
		{"3 a,b", []string{"x*v", "*xv"}},
		{"3 -,ab,ac", []string{"*..", "xx*", "x*x"}},
		// Equal rows and equal columns.
		{"2 a,a", []string{"x*", "x*"}},
		{"3 ab,b,b,bc", []string{"xx*", "^x^", "^x^", "*xx"}},
		{"3 ac,b", []string{"x*x", "*x*"}},
		{"3 ab,ab,c", []string{"xx*", "xx*", "**x"}},
		{"5 cd,abe,cd", []string{"**xx*", "xx**x", "**xx*"}},
		// Objects that have arrows of one kind only.
		{"2 -,a,b", []string{"^^", "x*", "*x"}},
		{"2 a,b,-,ab", []string{"x*", "*x", "^^", "xx"}},
		{"4 abc,abd,a", []string{"xxx*", "xx*x", "x*.."}},
		// Without objects or without attributes.
		{"0 none", nil},
		{"1 none", nil},
		{"6 none", nil},
		{"0 -", []string{""}},
		{"0 -,-,-,-,-,-,-,-", slices.Repeat([]string{""}, 8)},
		// The greatest contexts.
		{"6 -,-,-,-,-,-,-,-", slices.Repeat([]string{"******"}, 8)},
		{"6 bcdef,acdef,abdef,abcef,abcdf,abcde,abcdef,-", []string{"*xxxxx", "x*xxxx", "xx*xxx", "xxx*xx", "xxxx*x", "xxxxx*", "xxxxxx", "^^^^^^"}},
		{"6 f,ef,def,cdef,bcdef,abcdef,-,f", []string{"....*x", "...*xx", "..*xxx", ".*xxxx", "*xxxxx", "xxxxxx", ".....*", "....*x"}},
	}
	for _, k := range cases {
		checkArrows(t, parsedContext(t, k.context), k.lines)
	}
}

func TestArrowsByTheirDefinition(t *testing.T) {
	seen := map[rune]bool{}
	for _, c := range reductionContexts() {
		var lines []string
		for g := range c.Rows {
			lines = append(lines, signsBySearch(c, g))
		}
		checkArrows(t, c, lines)
		for _, sign := range strings.Join(lines, "") {
			seen[sign] = true
		}
	}
	if len(seen) != 5 {
		t.Errorf("the contexts have %d signs, want all 5", len(seen))
	}
}

// Promise 8: what is irreducible is told by the program and by a search.
func TestExactlyTheIrreducibleHaveArrows(t *testing.T) {
	sizes := map[[2]int]bool{}
	for _, c := range reductionContexts() {
		sizes[[2]int{c.Attributes, len(c.Rows)}] = true
		up, double := 0, 0
		for g := range c.Rows {
			irreducible := !reducibleBySearch(c, g)
			if irreducible != impl.IsIrreducibleObject(c, g) || irreducible == impl.IsReducibleObject(c, g) {
				t.Fatalf("IsIrreducibleObject(%v, %d) = %v", c, g, !irreducible)
			}
			if irreducible != (impl.DownArrows(c, g) != 0) || irreducible != (impl.DoubleArrows(c, g) != 0) {
				t.Fatalf("the object %d of %v has the arrows %q", g, c, impl.ArrowText(c)[g])
			}
			up |= impl.UpArrows(c, g)
			double |= impl.DoubleArrows(c, g)
		}
		other := turnedContext(c)
		for m := range c.Attributes {
			irreducible := !reducibleBySearch(other, m)
			if irreducible != impl.IsIrreducibleAttribute(c, m) || irreducible == impl.IsReducibleAttribute(c, m) {
				t.Fatalf("IsIrreducibleAttribute(%v, %d) = %v", c, m, !irreducible)
			}
			if irreducible != membersOf(up)[m] || irreducible != membersOf(double)[m] {
				t.Fatalf("the attribute %d of %v has the arrows %q", m, c, impl.ArrowText(c))
			}
		}
	}
	if len(sizes) != 63 {
		t.Errorf("contexts of %d sizes are looked at, want 63", len(sizes))
	}
}

// Where no two are equal, those have arrows without which there are fewer concepts.
func TestConceptsAreLostWithoutThoseThatHaveArrows(t *testing.T) {
	for _, c := range reductionContexts() {
		c, _ := impl.Clarify(c)
		size := len(conceptsBySearch(c))
		all, up := placesWithout(c.Attributes, 0), 0
		for g := range c.Rows {
			rest := partBySearch(c, slices.Delete(placesWithout(len(c.Rows), 0), g, g+1), all)
			if down := impl.DownArrows(c, g); (down != 0) != (len(conceptsBySearch(rest)) < size) {
				t.Fatalf("DownArrows(%v, %d) = %d, but of %d concepts %d are left", c, g, down, size, len(conceptsBySearch(rest)))
			}
			up |= impl.UpArrows(c, g)
		}
		for m := range c.Attributes {
			rest := partBySearch(c, placesWithout(len(c.Rows), 0), slices.Delete(slices.Clone(all), m, m+1))
			if membersOf(up)[m] != (len(conceptsBySearch(rest)) < size) {
				t.Fatalf("UpArrows of %v have %d, but without %d of %d concepts %d are left", c, up, m, size, len(conceptsBySearch(rest)))
			}
		}
	}
}

// Of the attributes that an object lacks, one with a greatest column has an up arrow; likewise for down arrows.
func TestOnlyFullRowsAndColumnsHaveNoArrows(t *testing.T) {
	for _, c := range reductionContexts() {
		full := 1<<c.Attributes - 1
		down, shared := 0, full
		for g, row := range c.Rows {
			up := impl.UpArrows(c, g)
			if (up != 0) != (row != full) || (impl.DownArrows(c, g)|up)&row != 0 {
				t.Fatalf("the object %d of %v has the arrows %q", g, c, impl.ArrowText(c)[g])
			}
			down |= impl.DownArrows(c, g)
			shared &= row
		}
		if len(c.Rows) > 0 && down != full-shared {
			t.Fatalf("DownArrows of %v have %d, want %d", c, down, full-shared)
		}
	}
}

func TestEqualOnesHaveEqualArrows(t *testing.T) {
	for _, c := range reductionContexts() {
		lines := impl.ArrowText(c)
		for g, row := range c.Rows {
			if first := slices.Index(c.Rows, row); lines[g] != lines[first] {
				t.Fatalf("ArrowText(%v) = %q, but the objects %d and %d are equal", c, lines, first, g)
			}
		}
		columns := turnedContext(c).Rows
		for m, column := range columns {
			first := slices.Index(columns, column)
			for _, line := range lines {
				if line[m] != line[first] {
					t.Fatalf("ArrowText(%v) = %q, but the attributes %d and %d are equal", c, lines, first, m)
				}
			}
		}
	}
}

// A down arrow is an up arrow where objects and attributes are exchanged.
func TestArrowsOfTheDual(t *testing.T) {
	turned := strings.NewReplacer("v", "^", "^", "v")
	for _, c := range reductionContexts() {
		dual, ok := impl.DualContext(c)
		if !ok {
			continue
		}
		lines, other := impl.ArrowText(c), impl.ArrowText(dual)
		for g, line := range lines {
			for m := range c.Attributes {
				if turned.Replace(line[m:m+1]) != other[m][g:g+1] {
					t.Fatalf("ArrowText of %v and of its dual are %q and %q", c, lines, other)
				}
			}
		}
	}
}

// What reducing leaves keeps its arrows.
func TestArrowsOfTheReduction(t *testing.T) {
	for _, c := range reductionContexts() {
		objects, attributes := reductionBySearch(c)
		reduced, _ := impl.ReduceContext(c)
		lines, left := impl.ArrowText(c), impl.ArrowText(reduced)
		for i, g := range objects {
			for k, m := range attributes {
				if lines[g][m] != left[i][k] {
					t.Fatalf("ArrowText of %v and of its reduction are %q and %q", c, lines, left)
				}
			}
		}
	}
}

// rejectsArrowsOfObject checks the results for an object that does not exist.
func rejectsArrowsOfObject(t *testing.T, c impl.Context, g int) {
	t.Helper()
	down, up, double := impl.DownArrows(c, g), impl.UpArrows(c, g), impl.DoubleArrows(c, g)
	if down != 0 || up != 0 || double != 0 {
		t.Errorf("the object %d of %v has the arrows %d, %d and %d, want 0", g, c, down, up, double)
	}
	if impl.IsIrreducibleObject(c, g) {
		t.Errorf("IsIrreducibleObject(%v, %d) = true", c, g)
	}
}

func rejectsArrowsOfAttribute(t *testing.T, c impl.Context, m int) {
	t.Helper()
	if impl.IsIrreducibleAttribute(c, m) {
		t.Errorf("IsIrreducibleAttribute(%v, %d) = true", c, m)
	}
}

func TestArrowsWithoutAContext(t *testing.T) {
	for _, c := range append(noContexts(), context(2, 1, 2, 4), context(2, 1, 2, -1), context(7, 1, 2), context(-1)) {
		if got := impl.ArrowText(c); len(got) != 0 {
			t.Errorf("ArrowText(%v) = %q, want none", c, got)
		}
		for _, e := range append(noSizes(), 0, 1, 2, 5, 6, 7, 8, 9) {
			rejectsArrowsOfObject(t, c, e)
			rejectsArrowsOfAttribute(t, c, e)
		}
	}
}

// In contexts of empty rows all that exist have arrows.
func TestArrowsOfNumbersThatDoNotExist(t *testing.T) {
	list := sampleContexts()
	for n := range 7 {
		for objects := range 9 {
			list = append(list, context(n, make([]int, objects)...))
		}
	}
	for _, c := range list {
		for _, g := range noElementNumbers(len(c.Rows)) {
			rejectsArrowsOfObject(t, c, g)
		}
		for _, m := range noElementNumbers(c.Attributes) {
			rejectsArrowsOfAttribute(t, c, m)
		}
	}
	// Numbers of the other kind, where there are fewer objects or fewer attributes.
	rejectsArrowsOfObject(t, context(5, 0, 1), 4)
	rejectsArrowsOfAttribute(t, context(2, 0, 1, 2, 0, 1), 4)
}

// Promise 31 for chapter 8; the rows behind those of the context are no part of it.
func TestArrowsKeepTheirRows(t *testing.T) {
	kept := []int{3, 6, 3, 0, 7, 7, 2, 4, 3, 9, -1}
	for size := range len(kept) + 1 {
		rows := slices.Clone(kept)
		c := context(3, rows[:size]...)
		impl.ArrowText(c)
		for e := -1; e <= 10; e++ {
			impl.DownArrows(c, e)
			impl.UpArrows(c, e)
			impl.DoubleArrows(c, e)
			impl.IsIrreducibleObject(c, e)
			impl.IsIrreducibleAttribute(c, e)
		}
		if !slices.Equal(rows, kept) {
			t.Errorf("the rows of a context of %d objects are changed to %v", size, rows)
		}
	}
}

// Promise 31 for chapter 8.
func TestArrowTextIsNewEachTime(t *testing.T) {
	c := context(4, 3, 2, 6, 12)
	want := []string{"xx*v", "^x^.", "*xx*", "v*xx"}
	for range 3 {
		lines := impl.ArrowText(c)
		if !slices.Equal(lines, want) {
			t.Fatalf("ArrowText(%v) = %q, want %q", c, lines, want)
		}
		all := lines[:cap(lines)]
		for g := range all {
			all[g] = "?"
		}
	}
}
