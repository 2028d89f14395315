package tests

import (
	"slices"
	"strconv"
	"strings"
	"testing"

	"loop.example/g00596/impl"
)

func concept(extent, intent int) impl.Concept {
	return impl.Concept{Extent: extent, Intent: intent}
}

// conceptsBySearch derives every set of objects and sorts what is left by insertion.
func conceptsBySearch(c impl.Context) []impl.Concept {
	var list []impl.Concept
	for extent := range 1 << len(c.Rows) {
		intent := intentBySearch(c, extent)
		if extentBySearch(c, intent) != extent {
			continue
		}
		place := 0
		for place < len(list) && comesBefore(list[place].Intent, intent) {
			place++
		}
		list = slices.Insert(list, place, concept(extent, intent))
	}
	return list
}

// noElementNumbers lists numbers that are no objects or attributes where there are n of them.
func noElementNumbers(n int) []int {
	return append(noSizes(), -3, -n-1, n, n+1, n+8, n+64, n+1<<32)
}

// textsOfConcepts writes concepts without the program's help.
func textsOfConcepts(list []impl.Concept) []string {
	texts := make([]string, len(list))
	for i, x := range list {
		for k, s := range []int{x.Extent, x.Intent} {
			_, part, _ := strings.Cut(textOfContext(context(8, s)), " ")
			texts[i] += []string{"", "/"}[k] + part
		}
	}
	return texts
}

// rejectsSetOfConcept checks the results for what is no set of attributes of a context.
func rejectsSetOfConcept(t *testing.T, c impl.Context, attributes int) {
	t.Helper()
	if got, ok := impl.NextClosed(c, attributes); got != 0 || ok {
		t.Errorf("NextClosed(%v, %d) = %d, %v, want 0, false", c, attributes, got, ok)
	}
	if got, ok := impl.ConceptAt(c, attributes); got != concept(0, 0) || ok {
		t.Errorf("ConceptAt(%v, %d) = %v, %v, want zero, false", c, attributes, got, ok)
	}
}

func rejectsObject(t *testing.T, c impl.Context, g int) {
	t.Helper()
	if got, ok := impl.ObjectConcept(c, g); got != concept(0, 0) || ok {
		t.Errorf("ObjectConcept(%v, %d) = %v, %v, want zero, false", c, g, got, ok)
	}
}

func rejectsAttribute(t *testing.T, c impl.Context, m int) {
	t.Helper()
	if got, ok := impl.AttributeConcept(c, m); got != concept(0, 0) || ok {
		t.Errorf("AttributeConcept(%v, %d) = %v, %v, want zero, false", c, m, got, ok)
	}
}

func TestConceptsOfContexts(t *testing.T) {
	cases := []struct{ context, concepts string }{
		{"3 ab,bc,ac", "abc/- bc/c ab/b b/bc ac/a c/ac a/ab -/abc"},
		{"3 a,ab,abc", "abc/a bc/ab c/abc"},
		{"2 a,b", "ab/- b/b a/a -/ab"},
		{"2 a,a", "ab/a -/ab"},
		{"2 ab,ab", "ab/ab"},
		{"2 -,-", "ab/- -/ab"},
		{"3 a,-", "ab/- a/a -/abc"},
		{"4 acd,bd,b,cd", "abcd/- abd/d ad/cd bc/b b/bd a/acd -/abcd"},
		{"1 -", "a/- -/a"},
		{"1 a", "a/a"},
	}
	for _, k := range cases {
		c, _ := impl.ParseContext(k.context)
		if got := textsOfConcepts(impl.Concepts(c)); strings.Join(got, " ") != k.concepts {
			t.Errorf("Concepts of %s are %v, want %s", k.context, got, k.concepts)
		}
	}
}

func TestConceptsByTheirDefinition(t *testing.T) {
	for _, c := range derivationContexts() {
		want := conceptsBySearch(c)
		if got := impl.Concepts(c); !slices.Equal(got, want) {
			t.Fatalf("Concepts(%v) = %v, want %v", c, got, want)
		}
	}
}

// Promise 5.
func TestConceptsAreThoseOfTheClosedSets(t *testing.T) {
	for _, c := range derivationContexts() {
		concepts := impl.Concepts(c)
		times := map[int]int{}
		for i, x := range concepts {
			times[x.Intent]++
			if !impl.IsConcept(c, x) {
				t.Fatalf("Concepts(%v) has %v, which is none", c, x)
			}
			if impl.IntentOf(c, x.Extent) != x.Intent || impl.ExtentOf(c, x.Intent) != x.Extent {
				t.Fatalf("%v of %v is not derived from itself", x, c)
			}
			if i > 0 && !comesBefore(concepts[i-1].Intent, x.Intent) {
				t.Fatalf("the intents %d and %d of %v are not in lectic order", concepts[i-1].Intent, x.Intent, c)
			}
		}
		for s := range allSets {
			want := 0
			if impl.IsClosed(c, s) {
				want = 1
			}
			if times[s] != want {
				t.Fatalf("the set %d is %d times an intent of %v, want %d", s, times[s], c, want)
			}
		}
	}
}

func TestNextClosed(t *testing.T) {
	c := context(4, 3, 2, 6, 12) // ab, b, bc, cd
	cases := []struct {
		c                impl.Context
		attributes, want int
	}{
		{c, 0, 4}, {c, 8, 4}, {c, 4, 12}, {c, 12, 2}, {c, 2, 6}, {c, 10, 6}, {c, 6, 3}, {c, 14, 3},
		{c, 1, 3}, {c, 9, 3}, {c, 5, 3}, {c, 13, 3}, {c, 3, 15}, {c, 11, 15}, {c, 7, 15},
		{context(2, 3, 3), 0, 3}, {context(2, 3, 3), 1, 3}, {context(2, 3, 3), 2, 3},
		{context(3, 1, 1), 0, 1}, {context(3, 1, 1), 6, 1}, {context(3, 1, 1), 1, 7}, {context(1), 0, 1},
	}
	for _, k := range cases {
		if got, ok := impl.NextClosed(k.c, k.attributes); got != k.want || !ok {
			t.Errorf("NextClosed(%v, %d) = %d, %v, want %d", k.c, k.attributes, got, ok, k.want)
		}
	}
}

// Of the closed sets behind a set the least one is chosen by a comparison with all of them.
func TestNextClosedFromEverySet(t *testing.T) {
	for _, c := range derivationContexts() {
		concepts := conceptsBySearch(c)
		for s := range 1 << c.Attributes {
			want, found := 0, false
			for _, x := range concepts {
				if comesBefore(s, x.Intent) && (!found || comesBefore(x.Intent, want)) {
					want, found = x.Intent, true
				}
			}
			if got, ok := impl.NextClosed(c, s); got != want || ok != found {
				t.Fatalf("NextClosed(%v, %d) = %d, %v, want %d, %v", c, s, got, ok, want, found)
			}
		}
	}
}

// The set of all attributes is always closed, so that it alone has no closed set behind it.
func TestTheLastClosedSet(t *testing.T) {
	for _, c := range derivationContexts() {
		full := 1<<c.Attributes - 1
		if got, ok := impl.NextClosed(c, full); got != 0 || ok {
			t.Errorf("NextClosed(%v, %d) = %d, %v, want 0, false", c, full, got, ok)
		}
		concepts := impl.Concepts(c)
		if last := concepts[len(concepts)-1]; last.Intent != full {
			t.Errorf("the last concept of %v is %v", c, last)
		}
		s, steps := impl.ClosureOf(c, 0), 1
		for next, ok := impl.NextClosed(c, s); ok; next, ok = impl.NextClosed(c, s) {
			s = next
			steps++
		}
		if s != full || steps != len(concepts) {
			t.Errorf("%d steps lead to %d in %v, which has %d concepts", steps, s, c, len(concepts))
		}
	}
}

func TestIsConcept(t *testing.T) {
	contexts := []impl.Context{
		context(4, 3, 2, 6, 12), context(3, 3, 6, 5), context(2, 3, 3), context(0, 0, 0), context(3), context(0),
		context(6, 62, 61, 59, 55, 47, 31, 63, 0), context(6, 1, 3, 7, 15, 31, 63, 0, 32), context(1, 0),
	}
	for _, c := range contexts {
		concepts := conceptsBySearch(c)
		for extent := -2; extent <= 257; extent++ {
			for intent := -2; intent <= 65; intent++ {
				x := concept(extent, intent)
				if got := impl.IsConcept(c, x); got != slices.Contains(concepts, x) {
					t.Errorf("IsConcept(%v, %v) = %v", c, x, got)
				}
			}
		}
	}
}

// Half of a concept is not enough: each side has to be the derivation of the other one.
func TestIsConceptNeedsBothDerivations(t *testing.T) {
	c := context(4, 3, 2, 6, 12) // ab, b, bc, cd
	for _, x := range []impl.Concept{concept(3, 2), concept(2, 2), concept(1, 1), concept(8, 8), concept(0, 9), concept(0, 0), concept(15, 15)} {
		if impl.IsConcept(c, x) {
			t.Errorf("IsConcept(%v, %v) = true", c, x)
		}
	}
}

func TestConceptAt(t *testing.T) {
	c := context(4, 3, 2, 6, 12) // ab, b, bc, cd
	cases := []struct {
		attributes int
		want       impl.Concept
	}{
		{0, concept(15, 0)}, {1, concept(1, 3)}, {2, concept(7, 2)}, {3, concept(1, 3)}, {4, concept(12, 4)}, {5, concept(0, 15)},
		{6, concept(4, 6)}, {8, concept(8, 12)}, {12, concept(8, 12)}, {10, concept(0, 15)}, {15, concept(0, 15)},
	}
	for _, k := range cases {
		if got, ok := impl.ConceptAt(c, k.attributes); got != k.want || !ok {
			t.Errorf("ConceptAt(%v, %d) = %v, %v, want %v", c, k.attributes, got, ok, k.want)
		}
	}
	for _, c := range derivationContexts() {
		for s := range 1 << c.Attributes {
			extent := extentBySearch(c, s)
			want := concept(extent, intentBySearch(c, extent))
			if got, ok := impl.ConceptAt(c, s); got != want || !ok {
				t.Fatalf("ConceptAt(%v, %d) = %v, %v, want %v", c, s, got, ok, want)
			}
		}
	}
}

func TestConceptsOfObjectsAndAttributes(t *testing.T) {
	c := context(4, 3, 2, 6, 12) // ab, b, bc, cd
	for g, want := range []impl.Concept{concept(1, 3), concept(7, 2), concept(4, 6), concept(8, 12)} {
		if got, ok := impl.ObjectConcept(c, g); got != want || !ok {
			t.Errorf("ObjectConcept(%v, %d) = %v, %v, want %v", c, g, got, ok, want)
		}
	}
	for m, want := range []impl.Concept{concept(1, 3), concept(7, 2), concept(12, 4), concept(8, 12)} {
		if got, ok := impl.AttributeConcept(c, m); got != want || !ok {
			t.Errorf("AttributeConcept(%v, %d) = %v, %v, want %v", c, m, got, ok, want)
		}
	}
}

// The extents of the concepts with an object are all supersets of the least one, so that this has the fewest objects.
func TestLeastAndGreatestExtents(t *testing.T) {
	for _, c := range derivationContexts() {
		concepts := conceptsBySearch(c)
		for g := range c.Rows {
			var want impl.Concept
			fewest := 9
			for _, x := range concepts {
				if size := sizeOf(x.Extent); membersOf(x.Extent)[g] && size < fewest {
					want, fewest = x, size
				}
			}
			if got, ok := impl.ObjectConcept(c, g); got != want || !ok {
				t.Fatalf("ObjectConcept(%v, %d) = %v, %v, want %v", c, g, got, ok, want)
			}
		}
		for m := range c.Attributes {
			var want impl.Concept
			most := -1
			for _, x := range concepts {
				if size := sizeOf(x.Extent); membersOf(x.Intent)[m] && size > most {
					want, most = x, size
				}
			}
			if got, ok := impl.AttributeConcept(c, m); got != want || !ok {
				t.Fatalf("AttributeConcept(%v, %d) = %v, %v, want %v", c, m, got, ok, want)
			}
		}
	}
}

func sizeOf(s int) int {
	size := 0
	for _, in := range membersOf(s) {
		if in {
			size++
		}
	}
	return size
}

func TestConceptsWithoutObjectsOrAttributes(t *testing.T) {
	for n := range 7 {
		full := 1<<n - 1
		for _, c := range []impl.Context{context(n), {Attributes: n, Rows: []int{}}} {
			if got := impl.Concepts(c); !slices.Equal(got, []impl.Concept{concept(0, full)}) {
				t.Errorf("Concepts(%v) = %v", c, got)
			}
			if !impl.IsConcept(c, concept(0, full)) || n > 0 && impl.IsConcept(c, concept(0, 0)) || impl.IsConcept(c, concept(1, full)) {
				t.Errorf("IsConcept of a set of %v is wrong", c)
			}
			for s := range full {
				if got, ok := impl.NextClosed(c, s); got != full || !ok {
					t.Errorf("NextClosed(%v, %d) = %d, %v, want %d", c, s, got, ok, full)
				}
			}
			for s := range full + 1 {
				if got, ok := impl.ConceptAt(c, s); got != concept(0, full) || !ok {
					t.Errorf("ConceptAt(%v, %d) = %v, %v", c, s, got, ok)
				}
			}
			for m := range n {
				if got, ok := impl.AttributeConcept(c, m); got != concept(0, full) || !ok {
					t.Errorf("AttributeConcept(%v, %d) = %v, %v", c, m, got, ok)
				}
			}
			rejectsObject(t, c, 0)
		}
	}
	for objects := range 9 {
		c := context(0, make([]int, objects)...)
		only := concept(1<<objects-1, 0)
		if got := impl.Concepts(c); !slices.Equal(got, []impl.Concept{only}) {
			t.Errorf("Concepts(%v) = %v", c, got)
		}
		if got, ok := impl.ConceptAt(c, 0); got != only || !ok {
			t.Errorf("ConceptAt(%v, 0) = %v, %v", c, got, ok)
		}
		for g := range objects {
			if got, ok := impl.ObjectConcept(c, g); got != only || !ok {
				t.Errorf("ObjectConcept(%v, %d) = %v, %v", c, g, got, ok)
			}
		}
		rejectsSetOfConcept(t, c, 1)
		rejectsAttribute(t, c, 0)
	}
}

// The first concept has an empty intent exactly if no attribute is shared by all objects, the last one an empty extent exactly if no object has all attributes.
func TestEmptyExtentsAndIntents(t *testing.T) {
	cases := []struct {
		c           impl.Context
		first, last impl.Concept
	}{
		{context(2, 1, 2), concept(3, 0), concept(0, 3)},
		{context(2, 1, 1), concept(3, 1), concept(0, 3)},
		{context(2, 3, 0), concept(3, 0), concept(1, 3)},
		{context(2, 3, 1), concept(3, 1), concept(1, 3)},
		{context(6, 0, 0, 0, 0, 0, 0, 0, 0), concept(255, 0), concept(0, 63)},
		{context(6, 63, 63, 63, 63, 63, 63, 63, 63), concept(255, 63), concept(255, 63)},
	}
	for _, k := range cases {
		concepts := impl.Concepts(k.c)
		if len(concepts) == 0 || concepts[0] != k.first || concepts[len(concepts)-1] != k.last {
			t.Errorf("Concepts(%v) = %v, want %v to %v", k.c, concepts, k.first, k.last)
		}
		if !impl.IsConcept(k.c, k.first) || !impl.IsConcept(k.c, k.last) {
			t.Errorf("%v or %v is no concept of %v", k.first, k.last, k.c)
		}
	}
}

// 8 objects, 6 attributes, and every set of attributes is closed.
func TestConceptsOfTheGreatestContext(t *testing.T) {
	c := context(6, 62, 61, 59, 55, 47, 31, 63, 0)
	concepts := impl.Concepts(c)
	if len(concepts) != 64 {
		t.Fatalf("Concepts(%v) has %d elements, want 64", c, len(concepts))
	}
	for i, x := range concepts {
		// In lectic order the binary digits of the place are those of the intent, the other way round.
		intent, rest := 0, i
		for range 6 {
			intent = 2*intent + rest%2
			rest /= 2
		}
		extent := 127 - intent
		if intent == 0 {
			extent = 255
		}
		if x != concept(extent, intent) {
			t.Errorf("concept %d of %v is %v, want %d and %d", i, c, x, extent, intent)
		}
	}
}

func TestConceptText(t *testing.T) {
	cases := []struct {
		x    impl.Concept
		want string
	}{
		{concept(0, 0), "-/-"}, {concept(15, 0), "abcd/-"}, {concept(0, 15), "-/abcd"}, {concept(7, 2), "abc/b"},
		{concept(255, 255), "abcdefgh/abcdefgh"}, {concept(128, 32), "h/f"}, {concept(32, 128), "f/h"}, {concept(9, 6), "ad/bc"},
	}
	for _, k := range cases {
		if got := impl.ConceptText(k.x); got != k.want {
			t.Errorf("ConceptText(%v) = %q, want %q", k.x, got, k.want)
		}
	}
	for extent := range allSets {
		for intent := range allSets {
			x := concept(extent, intent)
			if got, want := impl.ConceptText(x), impl.SetText(extent)+"/"+impl.SetText(intent); got != want {
				t.Fatalf("ConceptText(%v) = %q, want %q", x, got, want)
			}
		}
		for _, s := range noSetNumbers() {
			if one, other := impl.ConceptText(concept(extent, s)), impl.ConceptText(concept(s, extent)); one != "" || other != "" {
				t.Fatalf("the texts of concepts with %d and %d are %q and %q", extent, s, one, other)
			}
		}
	}
	for _, s := range noSetNumbers() {
		if got := impl.ConceptText(concept(s, s)); got != "" {
			t.Errorf("ConceptText of %d twice is %q", s, got)
		}
	}
}

func TestConceptsOfNumbersThatAreNone(t *testing.T) {
	for _, c := range sampleContexts() {
		for _, s := range noSetNumbers() {
			rejectsSetOfConcept(t, c, s)
			for _, x := range impl.Concepts(c) {
				if impl.IsConcept(c, concept(s, x.Intent)) || impl.IsConcept(c, concept(x.Extent, s)) || impl.IsConcept(c, concept(s, s)) {
					t.Fatalf("IsConcept of %v with %d in %v = true", x, s, c)
				}
			}
		}
		for extra := range 200 {
			rejectsSetOfConcept(t, c, 1<<c.Attributes+extra)
			rejectsSetOfConcept(t, c, -1-extra)
		}
		for _, g := range noElementNumbers(len(c.Rows)) {
			rejectsObject(t, c, g)
		}
		for _, m := range noElementNumbers(c.Attributes) {
			rejectsAttribute(t, c, m)
		}
	}
}

// An attribute where there are fewer attributes than objects, and an object where there are fewer objects.
func TestElementsOfTheOtherKind(t *testing.T) {
	tall, wide := context(2, 1, 2, 3, 0, 3), context(5, 31, 30)
	for e := 2; e < 5; e++ {
		rejectsAttribute(t, tall, e)
		rejectsObject(t, wide, e)
		if _, ok := impl.ObjectConcept(tall, e); !ok {
			t.Errorf("ObjectConcept(%v, %d) is missing", tall, e)
		}
		if _, ok := impl.AttributeConcept(wide, e); !ok {
			t.Errorf("AttributeConcept(%v, %d) is missing", wide, e)
		}
	}
}

func TestConceptsWithoutAContext(t *testing.T) {
	for _, c := range append(noContexts(), context(2, 3, 3, 4)) {
		if got := impl.Concepts(c); len(got) != 0 {
			t.Errorf("Concepts(%v) = %v, want none", c, got)
		}
		for _, s := range append(noSetNumbers(), 0, 1, 2, 3, 7, 63, 255) {
			rejectsSetOfConcept(t, c, s)
			for _, other := range []int{0, 1, 3, 7, 63, 255, s} {
				if impl.IsConcept(c, concept(s, other)) || impl.IsConcept(c, concept(other, s)) {
					t.Errorf("IsConcept of %d and %d in %v = true", s, other, c)
				}
			}
		}
		for _, e := range append(noSizes(), 0, 1, 2, 5, 6, 7, 8) {
			rejectsObject(t, c, e)
			rejectsAttribute(t, c, e)
		}
	}
}

// Promise 31 for chapter 5.
func TestConceptsKeepTheirRows(t *testing.T) {
	kept := []int{3, 6, 5, 0, 7, 1, 2, 4, 3, 9, -1}
	for size := range len(kept) + 1 {
		rows := slices.Clone(kept)
		c := context(3, rows[:size]...)
		for s := -1; s <= 9; s++ {
			impl.IsConcept(c, concept(s, s))
			impl.NextClosed(c, s)
			impl.ConceptAt(c, s)
			impl.ObjectConcept(c, s)
			impl.AttributeConcept(c, s)
		}
		impl.Concepts(c)
		if !slices.Equal(rows, kept) {
			t.Errorf("the rows of a context of %d objects are changed to %v", size, rows)
		}
	}
}

// Promise 31 for chapter 5.
func TestConceptsAreNewEachTime(t *testing.T) {
	c := context(4, 3, 2, 6, 12)
	want := conceptsBySearch(c)
	first, second := impl.Concepts(c), impl.Concepts(c)
	for i := range first[:cap(first)] {
		first[:cap(first)][i] = concept(-1, -1)
	}
	if !slices.Equal(second, want) || !slices.Equal(impl.Concepts(c), want) {
		t.Error("writing into a list of concepts changes another one")
	}
	third := impl.Concepts(c)
	c.Rows[0] = 15
	if !slices.Equal(third, want) {
		t.Error("writing into the rows changes a list of concepts")
	}
}

// Texts of different concepts differ, so that a concept can be told by its text.
func TestTextsOfConceptsDiffer(t *testing.T) {
	for _, c := range sampleContexts() {
		seen := map[string]bool{}
		for _, x := range impl.Concepts(c) {
			text := impl.ConceptText(x)
			if seen[text] {
				t.Fatalf("the text %s stands twice in %s", strconv.Quote(text), textOfContext(c))
			}
			seen[text] = true
		}
	}
}
