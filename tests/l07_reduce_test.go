package tests

import (
	"slices"
	"testing"

	"loop.example/g00596/impl"
)

// reductionContexts returns contexts of every size, all contexts of three attributes with at most four objects, and ones
// in which most objects or attributes are equal, empty or full.
func reductionContexts() []impl.Context {
	list := derivationContexts()
	list = append(list, contextsOfObjects(3, 3)...)
	list = append(list, contextsOfObjects(3, 4)...)
	for n := range 7 {
		full := 1<<n - 1
		for objects := range 9 {
			empty, equal, mixed := make([]int, objects), make([]int, objects), make([]int, objects)
			for g := range objects {
				equal[g] = full / 2
				mixed[g] = []int{0, full, full / 2, full}[(g+n)%4]
			}
			list = append(list, context(n, empty...), context(n, equal...), context(n, mixed...), context(n, slices.Repeat([]int{full}, objects)...))
		}
	}
	return list
}

// contextsOfObjects returns all contexts of n attributes with so many objects.
func contextsOfObjects(n, objects int) []impl.Context {
	list := []impl.Context{context(n)}
	for range objects {
		var longer []impl.Context
		for _, c := range list {
			for row := range 1 << n {
				longer = append(longer, context(n, append(slices.Clone(c.Rows), row)...))
			}
		}
		list = longer
	}
	return list
}

// partBySearch returns the context of the objects and attributes that are listed.
func partBySearch(c impl.Context, objects, attributes []int) impl.Context {
	part := context(len(attributes))
	for _, g := range objects {
		part.Rows = append(part.Rows, partOfSet(c.Rows[g], attributes))
	}
	return part
}

// partOfSet returns the elements of s that are listed, numbered by their places in the list.
func partOfSet(s int, elements []int) int {
	part, power := 0, 1
	for _, e := range elements {
		if membersOf(s)[e] {
			part += power
		}
		power *= 2
	}
	return part
}

// turnedContext exchanges objects and attributes; the result may have more attributes than a context.
func turnedContext(c impl.Context) impl.Context {
	other := context(len(c.Rows))
	for m := range c.Attributes {
		column, power := 0, 1
		for _, row := range c.Rows {
			if membersOf(row)[m] {
				column += power
			}
			power *= 2
		}
		other.Rows = append(other.Rows, column)
	}
	return other
}

// placesWithout returns the numbers less than n that are not in s.
func placesWithout(n, s int) []int {
	var places []int
	for e := range n {
		if !membersOf(s)[e] {
			places = append(places, e)
		}
	}
	return places
}

// firstOnes returns the places of the objects that are equal to no earlier one.
func firstOnes(c impl.Context) []int {
	var places []int
	for g, row := range c.Rows {
		if slices.Index(c.Rows, row) == g {
			places = append(places, g)
		}
	}
	return places
}

// reducibleBySearch asks for an attribute that the object lacks, but no object with all of its attributes and some more.
func reducibleBySearch(c impl.Context, g int) bool {
	own := membersOf(c.Rows[g])
	var larger [][8]bool
	for _, row := range c.Rows {
		members := membersOf(row)
		hasAll := true
		for m := range own {
			hasAll = hasAll && (!own[m] || members[m])
		}
		if hasAll && members != own {
			larger = append(larger, members)
		}
	}
	for m := range c.Attributes {
		shared := !own[m]
		for _, members := range larger {
			shared = shared && members[m]
		}
		if shared {
			return false
		}
	}
	return true
}

// irreducibleOnes returns the places of the objects that are not reducible.
func irreducibleOnes(c impl.Context) []int {
	var places []int
	for g := range c.Rows {
		if !reducibleBySearch(c, g) {
			places = append(places, g)
		}
	}
	return places
}

// chosenOf returns the elements of the list at the places.
func chosenOf(list, places []int) []int {
	var chosen []int
	for _, k := range places {
		chosen = append(chosen, list[k])
	}
	return chosen
}

// reductionBySearch returns the objects and the attributes of c that are left when it is reduced.
func reductionBySearch(c impl.Context) (objects, attributes []int) {
	objects, attributes = firstOnes(c), firstOnes(turnedContext(c))
	objects = chosenOf(objects, irreducibleOnes(partBySearch(c, objects, attributes)))
	attributes = chosenOf(attributes, irreducibleOnes(turnedContext(partBySearch(c, objects, attributes))))
	return objects, attributes
}

// rejectsReduction checks the results for a value that is no context.
func rejectsReduction(t *testing.T, c impl.Context) {
	t.Helper()
	if got, ok := impl.Clarify(c); ok || !isZeroContext(got) {
		t.Errorf("Clarify(%v) = %v, %v, want the zero Context, false", c, got, ok)
	}
	if got, ok := impl.ReduceContext(c); ok || !isZeroContext(got) {
		t.Errorf("ReduceContext(%v) = %v, %v, want the zero Context, false", c, got, ok)
	}
}

func rejectsDroppedObjects(t *testing.T, c impl.Context, objects int) {
	t.Helper()
	if got, ok := impl.DropObjects(c, objects); ok || !isZeroContext(got) {
		t.Errorf("DropObjects(%v, %d) = %v, %v, want the zero Context, false", c, objects, got, ok)
	}
}

func rejectsDroppedAttributes(t *testing.T, c impl.Context, attributes int) {
	t.Helper()
	if got, ok := impl.DropAttributes(c, attributes); ok || !isZeroContext(got) {
		t.Errorf("DropAttributes(%v, %d) = %v, %v, want the zero Context, false", c, attributes, got, ok)
	}
}

// parsedContext fails the test if the text is none of a context.
func parsedContext(t *testing.T, text string) impl.Context {
	t.Helper()
	c, ok := impl.ParseContext(text)
	if !ok {
		t.Fatalf("ParseContext(%q) = false", text)
	}
	return c
}

func TestClarifyAndReduceContexts(t *testing.T) {
	cases := []struct{ context, clarified, reduced string }{
		{"3 ab,bc,ac", "3 ab,bc,ac", "3 ab,bc,ac"},
		{"3 a,ab,abc", "3 a,ab,abc", "2 -,a"},
		{"4 abc,abd,acd,bcd", "4 abc,abd,acd,bcd", "4 abc,abd,acd,bcd"},
		{"4 ab,b,bc,cd", "4 ab,b,bc,cd", "4 ab,bc,cd"},
		// Equal rows, together or with others in between; the first one is left.
		{"2 a,a", "2 a", "1 -"},
		{"2 a,b,a", "2 a,b", "2 a,b"},
		{"2 b,a,b,b,a", "2 b,a", "2 b,a"},
		{"3 ab,c,ab,ac,c", "3 ab,c,ac", "3 ab,c,ac"},
		// Equal columns likewise.
		{"2 ab", "1 a", "0 none"},
		{"2 ab,-", "1 a,-", "1 -"},
		{"3 ac,b", "2 a,b", "2 a,b"},
		{"4 ac,bd", "2 a,b", "2 a,b"},
		{"5 cd,abe,cd", "2 b,a", "2 b,a"},
		// Both.
		{"3 ab,ab,c", "2 a,b", "2 a,b"},
		{"6 abc,def,abc,def,-,-", "2 a,b,-", "2 a,b"},
		// Empty and full rows.
		{"2 -,-", "1 -", "1 -"},
		{"3 -", "1 -", "1 -"},
		{"3 abc", "1 a", "0 none"},
		{"3 abc,abc,abc", "1 a", "0 none"},
		{"2 -,ab", "1 -,a", "1 -"},
		{"2 a,b,-,ab", "2 a,b,-,ab", "2 a,b"},
		{"6 abcdef,-,-,-,-,-,-,abcdef", "1 a,-", "1 -"},
		// Full and empty columns.
		{"2 ab,a", "2 ab,a", "1 -"},
		{"3 ab,ac", "3 ab,ac", "2 a,b"},
		{"3 a,b", "3 a,b", "2 a,b"},
		{"3 a,ab", "3 a,ab", "2 -,a"},
		// Without objects or without attributes.
		{"0 none", "0 none", "0 none"},
		{"1 none", "1 none", "0 none"},
		{"2 none", "1 none", "0 none"},
		{"6 none", "1 none", "0 none"},
		{"0 -", "0 -", "0 none"},
		{"0 -,-", "0 -", "0 none"},
		{"0 -,-,-,-,-,-,-,-", "0 -", "0 none"},
		// The greatest contexts.
		{"6 a,b,c,d,e,f,ab,-", "6 a,b,c,d,e,f,ab,-", "6 a,b,c,d,e,f,ab"},
		{"6 bcdef,acdef,abdef,abcef,abcdf,abcde,abcdef,-", "6 bcdef,acdef,abdef,abcef,abcdf,abcde,abcdef,-", "6 bcdef,acdef,abdef,abcef,abcdf,abcde"},
		{"6 f,ef,def,cdef,bcdef,abcdef,-,f", "6 f,ef,def,cdef,bcdef,abcdef,-", "6 f,ef,def,cdef,bcdef,-"},
	}
	for _, k := range cases {
		c := parsedContext(t, k.context)
		if got, ok := impl.Clarify(c); !ok || textOfContext(got) != k.clarified {
			t.Errorf("Clarify of %s is %v, %v, want %s", k.context, got, ok, k.clarified)
		}
		if got, ok := impl.ReduceContext(c); !ok || textOfContext(got) != k.reduced {
			t.Errorf("ReduceContext of %s is %v, %v, want %s", k.context, got, ok, k.reduced)
		}
	}
}

func TestClarifyByItsDefinition(t *testing.T) {
	for _, c := range reductionContexts() {
		want := partBySearch(c, firstOnes(c), firstOnes(turnedContext(c)))
		got, ok := impl.Clarify(c)
		if !ok || !sameContext(got, want) {
			t.Fatalf("Clarify(%v) = %v, %v, want %v", c, got, ok, want)
		}
		if !impl.IsContext(got) || len(firstOnes(got)) != len(got.Rows) || len(firstOnes(turnedContext(got))) != got.Attributes {
			t.Fatalf("Clarify(%v) = %v, in which some are equal", c, got)
		}
		if again, ok := impl.Clarify(got); !ok || !sameContext(again, got) {
			t.Fatalf("Clarify(%v) = %v, %v, want no change", got, again, ok)
		}
		if one, other := len(conceptsBySearch(c)), len(conceptsBySearch(got)); one != other {
			t.Fatalf("%v has %d concepts, clarified %d", c, one, other)
		}
	}
}

func TestDropObjectsAndAttributes(t *testing.T) {
	cases := []struct {
		context             string
		dropped             int
		objects, attributes string
	}{
		{"4 ab,b,bc,cd", 0, "4 ab,b,bc,cd", "4 ab,b,bc,cd"},
		{"4 ab,b,bc,cd", 1, "4 b,bc,cd", "3 a,a,ab,bc"},
		{"4 ab,b,bc,cd", 2, "4 ab,bc,cd", "3 a,-,b,bc"},
		{"4 ab,b,bc,cd", 5, "4 b,cd", "2 a,a,a,b"},
		{"4 ab,b,bc,cd", 6, "4 ab,cd", "2 a,-,-,b"},
		{"4 ab,b,bc,cd", 8, "4 ab,b,bc", "3 ab,b,bc,c"},
		{"4 ab,b,bc,cd", 14, "4 ab", "1 a,-,-,-"},
		{"4 ab,b,bc,cd", 15, "4 none", "0 -,-,-,-"},
		{"2 a,a", 1, "2 a", "1 -,-"},
		{"2 a,a", 2, "2 a", "1 a,a"},
		{"2 -,ab", 3, "2 none", "0 -,-"},
		{"0 none", 0, "0 none", "0 none"},
	}
	for _, k := range cases {
		c := parsedContext(t, k.context)
		if got, ok := impl.DropObjects(c, k.dropped); !ok || textOfContext(got) != k.objects {
			t.Errorf("DropObjects of %s and %d is %v, %v, want %s", k.context, k.dropped, got, ok, k.objects)
		}
		if got, ok := impl.DropAttributes(c, k.dropped); !ok || textOfContext(got) != k.attributes {
			t.Errorf("DropAttributes of %s and %d is %v, %v, want %s", k.context, k.dropped, got, ok, k.attributes)
		}
	}
}

func TestDroppingByItsDefinition(t *testing.T) {
	for _, c := range reductionContexts() {
		allObjects, allAttributes := placesWithout(len(c.Rows), 0), placesWithout(c.Attributes, 0)
		for s := range 1 << len(c.Rows) {
			want := partBySearch(c, placesWithout(len(c.Rows), s), allAttributes)
			if got, ok := impl.DropObjects(c, s); !ok || !sameContext(got, want) {
				t.Fatalf("DropObjects(%v, %d) = %v, %v, want %v", c, s, got, ok, want)
			}
		}
		for s := range 1 << c.Attributes {
			want := partBySearch(c, allObjects, placesWithout(c.Attributes, s))
			if got, ok := impl.DropAttributes(c, s); !ok || !sameContext(got, want) {
				t.Fatalf("DropAttributes(%v, %d) = %v, %v, want %v", c, s, got, ok, want)
			}
		}
	}
}

func TestDroppingNothingAndAll(t *testing.T) {
	for _, c := range reductionContexts() {
		one, ok := impl.DropObjects(c, 0)
		other, fine := impl.DropAttributes(c, 0)
		if !ok || !fine || !sameContext(one, c) || !sameContext(other, c) {
			t.Fatalf("dropping nothing from %v leaves %v, %v and %v, %v", c, one, ok, other, fine)
		}
		one, ok = impl.DropObjects(c, 1<<len(c.Rows)-1)
		other, fine = impl.DropAttributes(c, 1<<c.Attributes-1)
		if !ok || !fine || !sameContext(one, context(c.Attributes)) || !sameContext(other, context(0, make([]int, len(c.Rows))...)) {
			t.Fatalf("dropping all from %v leaves %v, %v and %v, %v", c, one, ok, other, fine)
		}
	}
}

func TestReducibleObjectsOfContexts(t *testing.T) {
	cases := []struct {
		context             string
		objects, attributes []bool
	}{
		{"4 ab,b,bc,cd", []bool{false, true, false, false}, []bool{false, false, false, false}},
		{"3 a,ab,abc", []bool{false, false, true}, []bool{true, false, false}},
		{"3 ab,bc,ac", []bool{false, false, false}, []bool{false, false, false}},
		// An object equal to another one is no reason for it to be reducible.
		{"2 a,a", []bool{false, false}, []bool{true, false}},
		{"2 a,b,a", []bool{false, false, false}, []bool{false, false}},
		{"3 ab,b,b,bc", []bool{false, true, true, false}, []bool{false, true, false}},
		// Without another object that has all attributes of it, only the full row is reducible.
		{"2 a,b", []bool{false, false}, []bool{false, false}},
		{"3 ab,c,abc", []bool{false, false, true}, []bool{false, false, false}},
		{"2 ab,ab", []bool{true, true}, []bool{true, true}},
		// The empty row is reducible if the others have nothing in common.
		{"2 -", []bool{false}, []bool{false, false}},
		{"2 -,a", []bool{false, false}, []bool{false, false}},
		{"2 -,a,b", []bool{true, false, false}, []bool{false, false}},
		{"2 -,-,a,b", []bool{true, true, false, false}, []bool{false, false}},
		{"3 -,ab,ac", []bool{false, false, false}, []bool{false, false, false}},
		{"2 ab,a", []bool{true, false}, []bool{true, false}},
		{"0 -,-", []bool{true, true}, nil},
		{"2 none", nil, []bool{true, true}},
		{"0 none", nil, nil},
		{"6 -,-,-,-,-,-,-,-", slices.Repeat([]bool{false}, 8), slices.Repeat([]bool{false}, 6)},
		{"6 bcdef,acdef,abdef,abcef,abcdf,abcde,abcdef,-", []bool{false, false, false, false, false, false, true, true}, slices.Repeat([]bool{false}, 6)},
	}
	for _, k := range cases {
		c := parsedContext(t, k.context)
		for g, want := range k.objects {
			if got := impl.IsReducibleObject(c, g); got != want {
				t.Errorf("IsReducibleObject of %s and %d is %v", k.context, g, got)
			}
		}
		for m, want := range k.attributes {
			if got := impl.IsReducibleAttribute(c, m); got != want {
				t.Errorf("IsReducibleAttribute of %s and %d is %v", k.context, m, got)
			}
		}
	}
}

func TestReducibleByItsDefinition(t *testing.T) {
	for _, c := range reductionContexts() {
		for g := range c.Rows {
			if got := impl.IsReducibleObject(c, g); got != reducibleBySearch(c, g) {
				t.Fatalf("IsReducibleObject(%v, %d) = %v", c, g, got)
			}
		}
		other := turnedContext(c)
		for m := range c.Attributes {
			if got := impl.IsReducibleAttribute(c, m); got != reducibleBySearch(other, m) {
				t.Fatalf("IsReducibleAttribute(%v, %d) = %v", c, m, got)
			}
		}
	}
}

// Where no two are equal, those are reducible without which there are as many concepts.
func TestReducibleOnesAreNotMissed(t *testing.T) {
	for _, c := range reductionContexts() {
		c, _ := impl.Clarify(c)
		size := len(conceptsBySearch(c))
		for g := range c.Rows {
			rest, _ := impl.DropObjects(c, impl.FullSet(g+1)-impl.FullSet(g))
			if got, left := impl.IsReducibleObject(c, g), len(conceptsBySearch(rest)); got != (left == size) {
				t.Fatalf("IsReducibleObject(%v, %d) = %v, but of %d concepts %d are left", c, g, got, size, left)
			}
		}
		for m := range c.Attributes {
			rest, _ := impl.DropAttributes(c, impl.FullSet(m+1)-impl.FullSet(m))
			if got, left := impl.IsReducibleAttribute(c, m), len(conceptsBySearch(rest)); got != (left == size) {
				t.Fatalf("IsReducibleAttribute(%v, %d) = %v, but of %d concepts %d are left", c, m, got, size, left)
			}
		}
	}
}

// Promise 7.
func TestReducingKeepsTheNumberOfConcepts(t *testing.T) {
	sizes := map[[2]int]bool{}
	for _, c := range reductionContexts() {
		sizes[[2]int{c.Attributes, len(c.Rows)}] = true
		reduced, ok := impl.ReduceContext(c)
		if !ok || !impl.IsContext(reduced) {
			t.Fatalf("ReduceContext(%v) = %v, %v", c, reduced, ok)
		}
		if one, other := len(conceptsBySearch(c)), len(conceptsBySearch(reduced)); one != other || len(impl.Concepts(reduced)) != one {
			t.Fatalf("%v has %d concepts, reduced to %v %d", c, one, reduced, other)
		}
		if impl.HeightOf(reduced) != impl.HeightOf(c) || impl.CountEdges(reduced) != impl.CountEdges(c) {
			t.Fatalf("the lattices of %v and %v differ", c, reduced)
		}
	}
	if len(sizes) != 63 {
		t.Errorf("contexts of %d sizes are reduced, want 63", len(sizes))
	}
}

// Promise 7, told by the program and by a search.
func TestNothingReducibleIsLeft(t *testing.T) {
	for _, c := range reductionContexts() {
		reduced, _ := impl.ReduceContext(c)
		other := turnedContext(reduced)
		for g := range reduced.Rows {
			if impl.IsReducibleObject(reduced, g) || reducibleBySearch(reduced, g) {
				t.Fatalf("ReduceContext(%v) = %v, in which the object %d is reducible", c, reduced, g)
			}
		}
		for m := range reduced.Attributes {
			if impl.IsReducibleAttribute(reduced, m) || reducibleBySearch(other, m) {
				t.Fatalf("ReduceContext(%v) = %v, in which the attribute %d is reducible", c, reduced, m)
			}
		}
		if len(firstOnes(reduced)) != len(reduced.Rows) || len(firstOnes(other)) != reduced.Attributes {
			t.Fatalf("ReduceContext(%v) = %v, in which some are equal", c, reduced)
		}
		if again, ok := impl.ReduceContext(reduced); !ok || !sameContext(again, reduced) {
			t.Fatalf("ReduceContext(%v) = %v, %v, want no change", reduced, again, ok)
		}
	}
}

// The concepts of the reduction are those of the context without the objects and attributes that are dropped.
func TestReduceByItsDefinition(t *testing.T) {
	for _, c := range reductionContexts() {
		objects, attributes := reductionBySearch(c)
		want := partBySearch(c, objects, attributes)
		reduced, ok := impl.ReduceContext(c)
		if !ok || !sameContext(reduced, want) {
			t.Fatalf("ReduceContext(%v) = %v, %v, want %v", c, reduced, ok, want)
		}
		concepts := impl.Concepts(reduced)
		parts := map[impl.Concept]bool{}
		for _, x := range conceptsBySearch(c) {
			part := concept(partOfSet(x.Extent, objects), partOfSet(x.Intent, attributes))
			if parts[part] || !slices.Contains(concepts, part) {
				t.Fatalf("%v of %v has the part %v in %v", x, c, part, reduced)
			}
			parts[part] = true
		}
		if len(parts) != len(concepts) {
			t.Fatalf("%d of the %d concepts of %v are those of %v", len(parts), len(concepts), reduced, c)
		}
	}
}

// What objects are in the context, attributes are in its dual.
func TestReducibleOnesOfTheDual(t *testing.T) {
	for _, c := range reductionContexts() {
		dual, ok := impl.DualContext(c)
		if !ok {
			continue
		}
		for g := range c.Rows {
			if impl.IsReducibleObject(c, g) != impl.IsReducibleAttribute(dual, g) {
				t.Fatalf("the object %d of %v and the attribute of %v differ", g, c, dual)
			}
		}
		for m := range c.Attributes {
			if impl.IsReducibleAttribute(c, m) != impl.IsReducibleObject(dual, m) {
				t.Fatalf("the attribute %d of %v and the object of %v differ", m, c, dual)
			}
		}
	}
}

func TestReducingWithoutAContext(t *testing.T) {
	for _, c := range append(noContexts(), context(2, 3, 3, 4), context(2, 1, 1, -1), context(9), context(-1)) {
		rejectsReduction(t, c)
		for _, s := range append(noSetNumbers(), 0, 1, 2, 3, 63, 255) {
			rejectsDroppedObjects(t, c, s)
			rejectsDroppedAttributes(t, c, s)
		}
		for _, e := range append(noSizes(), 0, 1, 2, 5, 6, 7, 8) {
			if impl.IsReducibleObject(c, e) || impl.IsReducibleAttribute(c, e) {
				t.Errorf("the object or the attribute %d of %v is reducible", e, c)
			}
		}
	}
}

func TestDroppingSetsThatDoNotExist(t *testing.T) {
	for _, c := range sampleContexts() {
		for _, s := range noSetNumbers() {
			rejectsDroppedObjects(t, c, s)
			rejectsDroppedAttributes(t, c, s)
		}
		for extra := range 300 {
			rejectsDroppedObjects(t, c, 1<<len(c.Rows)+extra)
			rejectsDroppedObjects(t, c, -1-extra)
			rejectsDroppedAttributes(t, c, 1<<c.Attributes+extra)
			rejectsDroppedAttributes(t, c, -1-extra)
		}
	}
	// A set of the other kind, where there are fewer objects or fewer attributes.
	rejectsDroppedAttributes(t, context(2, 1, 2, 3, 0, 3), 16)
	rejectsDroppedObjects(t, context(5, 31, 30), 16)
}

// Full rows and columns would all be reducible.
func TestReducibleNumbersThatDoNotExist(t *testing.T) {
	list := sampleContexts()
	for n := range 7 {
		for objects := range 9 {
			list = append(list, context(n, slices.Repeat([]int{1<<n - 1}, objects)...))
		}
	}
	for _, c := range list {
		for _, g := range noElementNumbers(len(c.Rows)) {
			if impl.IsReducibleObject(c, g) {
				t.Errorf("IsReducibleObject(%v, %d) = true", c, g)
			}
		}
		for _, m := range noElementNumbers(c.Attributes) {
			if impl.IsReducibleAttribute(c, m) {
				t.Errorf("IsReducibleAttribute(%v, %d) = true", c, m)
			}
		}
	}
}

// Promise 31 for chapter 7.
func TestReductionsKeepTheirRows(t *testing.T) {
	kept := []int{3, 6, 3, 0, 7, 7, 2, 4, 3, 9, -1}
	for size := range len(kept) + 1 {
		rows := slices.Clone(kept)
		c := context(3, rows[:size]...)
		impl.Clarify(c)
		impl.ReduceContext(c)
		for s := -1; s <= 256; s++ {
			impl.DropObjects(c, s)
			impl.DropAttributes(c, s)
			impl.IsReducibleObject(c, s)
			impl.IsReducibleAttribute(c, s)
		}
		if !slices.Equal(rows, kept) {
			t.Errorf("the rows of a context of %d objects are changed to %v", size, rows)
		}
	}
}

// Promise 31 for chapter 7: also where the result is equal to the argument.
func TestReductionsReturnNewRows(t *testing.T) {
	c := context(3, 3, 6, 5)
	functions := []func() (impl.Context, bool){
		func() (impl.Context, bool) { return impl.Clarify(c) },
		func() (impl.Context, bool) { return impl.ReduceContext(c) },
		func() (impl.Context, bool) { return impl.DropObjects(c, 0) },
		func() (impl.Context, bool) { return impl.DropAttributes(c, 0) },
		func() (impl.Context, bool) { return impl.DropObjects(c, 4) },
		func() (impl.Context, bool) { return impl.DropAttributes(c, 4) },
	}
	for i, function := range functions {
		first, _ := function()
		second, _ := function()
		want := textOfContext(second)
		all := first.Rows[:cap(first.Rows)]
		for g := range all {
			all[g] = 99
		}
		if textOfContext(c) != "3 ab,bc,ac" || textOfContext(second) != want {
			t.Errorf("writing into result %d changes %v or %v", i, c, second)
		}
		c.Rows[0] = 7
		if textOfContext(second) != want {
			t.Errorf("writing into the rows changes result %d to %v", i, second)
		}
		c.Rows[0] = 3
	}
}
