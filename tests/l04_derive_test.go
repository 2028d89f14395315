package tests

import (
	"slices"
	"testing"

	"loop.example/g00596/impl"
)

// derivationContexts returns contexts of every size and all contexts of few attributes and objects.
func derivationContexts() []impl.Context {
	list := sampleContexts()
	for n := range 4 {
		list = append(list, smallContexts(n)...)
	}
	return append(list,
		context(6, 63, 63, 63, 63, 63, 63, 63, 63),
		context(6, 0, 0, 0, 0, 0, 0, 0, 0),
		context(6, 62, 61, 59, 55, 47, 31, 63, 0),
		context(6, 1, 3, 7, 15, 31, 63, 0, 32),
	)
}

// intentBySearch keeps each attribute that no object of the set lacks.
func intentBySearch(c impl.Context, objects int) int {
	chosen := membersOf(objects)
	intent, power := 0, 1
	for m := range c.Attributes {
		shared := true
		for g, row := range c.Rows {
			shared = shared && (!chosen[g] || membersOf(row)[m])
		}
		if shared {
			intent += power
		}
		power *= 2
	}
	return intent
}

// extentBySearch keeps each object that lacks no attribute of the set.
func extentBySearch(c impl.Context, attributes int) int {
	chosen := membersOf(attributes)
	extent, power := 0, 1
	for _, row := range c.Rows {
		hasAll := true
		for m := range c.Attributes {
			hasAll = hasAll && (!chosen[m] || membersOf(row)[m])
		}
		if hasAll {
			extent += power
		}
		power *= 2
	}
	return extent
}

// rejectsObjects checks the results for what is no set of objects of a context.
func rejectsObjects(t *testing.T, c impl.Context, objects int) {
	t.Helper()
	if got := impl.IntentOf(c, objects); got != 0 {
		t.Errorf("IntentOf(%v, %d) = %d, want 0", c, objects, got)
	}
	if got := impl.ObjectClosure(c, objects); got != 0 {
		t.Errorf("ObjectClosure(%v, %d) = %d, want 0", c, objects, got)
	}
}

// rejectsAttributes checks the results for what is no set of attributes of a context.
func rejectsAttributes(t *testing.T, c impl.Context, attributes int) {
	t.Helper()
	if got := impl.ExtentOf(c, attributes); got != 0 {
		t.Errorf("ExtentOf(%v, %d) = %d, want 0", c, attributes, got)
	}
	if got := impl.ClosureOf(c, attributes); got != 0 {
		t.Errorf("ClosureOf(%v, %d) = %d, want 0", c, attributes, got)
	}
	if impl.IsClosed(c, attributes) {
		t.Errorf("IsClosed(%v, %d) = true", c, attributes)
	}
}

func TestIntentOf(t *testing.T) {
	c := context(4, 3, 2, 6, 12) // ab, b, bc, cd
	cases := []struct {
		c                   impl.Context
		objects, want, back int
	}{
		{c, 0, 15, 0}, {c, 1, 3, 1}, {c, 2, 2, 7}, {c, 3, 2, 7}, {c, 4, 6, 4}, {c, 5, 2, 7},
		{c, 8, 12, 8}, {c, 12, 4, 12}, {c, 9, 0, 15}, {c, 15, 0, 15},
		{context(3, 3, 6, 5), 3, 2, 3}, {context(3, 3, 6, 5), 7, 0, 7}, {context(3, 3, 6, 5), 0, 7, 0},
		{context(2, 3, 1), 0, 3, 1}, {context(2, 3, 3), 0, 3, 3}, {context(2, 3, 3), 1, 3, 3},
	}
	for _, k := range cases {
		if got := impl.IntentOf(k.c, k.objects); got != k.want {
			t.Errorf("IntentOf(%v, %d) = %d, want %d", k.c, k.objects, got, k.want)
		}
		if got := impl.ObjectClosure(k.c, k.objects); got != k.back {
			t.Errorf("ObjectClosure(%v, %d) = %d, want %d", k.c, k.objects, got, k.back)
		}
	}
}

func TestExtentOf(t *testing.T) {
	c := context(4, 3, 2, 6, 12) // ab, b, bc, cd
	cases := []struct {
		c                      impl.Context
		attributes, want, back int
	}{
		{c, 0, 15, 0}, {c, 1, 1, 3}, {c, 2, 7, 2}, {c, 3, 1, 3}, {c, 4, 12, 4}, {c, 5, 0, 15},
		{c, 6, 4, 6}, {c, 8, 8, 12}, {c, 12, 8, 12}, {c, 10, 0, 15}, {c, 15, 0, 15},
		{context(3, 3, 6, 5), 2, 3, 2}, {context(3, 3, 6, 5), 7, 0, 7}, {context(3, 3, 6, 5), 0, 7, 0},
		{context(2, 3, 1), 0, 3, 1}, {context(2, 3, 3), 0, 3, 3}, {context(2, 0), 1, 0, 3},
	}
	for _, k := range cases {
		if got := impl.ExtentOf(k.c, k.attributes); got != k.want {
			t.Errorf("ExtentOf(%v, %d) = %d, want %d", k.c, k.attributes, got, k.want)
		}
		if got := impl.ClosureOf(k.c, k.attributes); got != k.back {
			t.Errorf("ClosureOf(%v, %d) = %d, want %d", k.c, k.attributes, got, k.back)
		}
		if got := impl.IsClosed(k.c, k.attributes); got != (k.attributes == k.back) {
			t.Errorf("IsClosed(%v, %d) = %v", k.c, k.attributes, got)
		}
	}
}

func TestDerivationsByTheirDefinition(t *testing.T) {
	for _, c := range derivationContexts() {
		for objects := range 1 << len(c.Rows) {
			want := intentBySearch(c, objects)
			if got := impl.IntentOf(c, objects); got != want {
				t.Fatalf("IntentOf(%v, %d) = %d, want %d", c, objects, got, want)
			}
			if got := impl.ObjectClosure(c, objects); got != extentBySearch(c, want) {
				t.Fatalf("ObjectClosure(%v, %d) = %d", c, objects, got)
			}
		}
		for attributes := range 1 << c.Attributes {
			want := extentBySearch(c, attributes)
			if got := impl.ExtentOf(c, attributes); got != want {
				t.Fatalf("ExtentOf(%v, %d) = %d, want %d", c, attributes, got, want)
			}
			closure := intentBySearch(c, want)
			if got := impl.ClosureOf(c, attributes); got != closure {
				t.Fatalf("ClosureOf(%v, %d) = %d, want %d", c, attributes, got, closure)
			}
			if got := impl.IsClosed(c, attributes); got != (closure == attributes) {
				t.Fatalf("IsClosed(%v, %d) = %v", c, attributes, got)
			}
		}
	}
}

// Promise 4, for sets of attributes.
func TestDerivingAttributesThreeTimes(t *testing.T) {
	for _, c := range derivationContexts() {
		for s := range 1 << c.Attributes {
			extent, closure := impl.ExtentOf(c, s), impl.ClosureOf(c, s)
			if got := impl.ExtentOf(c, impl.IntentOf(c, extent)); got != extent {
				t.Fatalf("deriving %d three times in %v gives %d, once %d", s, c, got, extent)
			}
			if got := impl.ExtentOf(c, closure); got != extent {
				t.Fatalf("the extent of the closure of %d in %v is %d, want %d", s, c, got, extent)
			}
			if impl.ObjectClosure(c, extent) != extent {
				t.Fatalf("the extent of %d in %v is not closed", s, c)
			}
			if !impl.IsSubset(s, closure) || impl.ClosureOf(c, closure) != closure || !impl.IsClosed(c, closure) {
				t.Fatalf("ClosureOf(%v, %d) = %d", c, s, closure)
			}
		}
	}
}

// Promise 4, for sets of objects.
func TestDerivingObjectsThreeTimes(t *testing.T) {
	for _, c := range derivationContexts() {
		for s := range 1 << len(c.Rows) {
			intent, closure := impl.IntentOf(c, s), impl.ObjectClosure(c, s)
			if got := impl.IntentOf(c, impl.ExtentOf(c, intent)); got != intent {
				t.Fatalf("deriving %d three times in %v gives %d, once %d", s, c, got, intent)
			}
			if got := impl.IntentOf(c, closure); got != intent {
				t.Fatalf("the intent of the closure of %d in %v is %d, want %d", s, c, got, intent)
			}
			if !impl.IsClosed(c, intent) {
				t.Fatalf("the intent of %d in %v is not closed", s, c)
			}
			if !impl.IsSubset(s, closure) || impl.ObjectClosure(c, closure) != closure {
				t.Fatalf("ObjectClosure(%v, %d) = %d", c, s, closure)
			}
		}
	}
}

// A set of objects is in the extent of a set of attributes exactly if this is in its intent.
func TestDerivationsAnswerEachOther(t *testing.T) {
	for _, c := range []impl.Context{context(4, 3, 2, 6, 12), context(6, 62, 61, 59, 55, 47, 31, 63, 0), context(5, 7, 28, 21, 10), context(3, 0, 7, 0)} {
		for objects := range 1 << len(c.Rows) {
			for attributes := range 1 << c.Attributes {
				below := impl.IsSubset(objects, impl.ExtentOf(c, attributes))
				if below != impl.IsSubset(attributes, impl.IntentOf(c, objects)) {
					t.Errorf("%d and %d in %v", objects, attributes, c)
				}
			}
		}
	}
}

func TestDerivingTheEmptySets(t *testing.T) {
	for _, c := range derivationContexts() {
		if got := impl.IntentOf(c, 0); got != 1<<c.Attributes-1 {
			t.Errorf("IntentOf(%v, 0) = %d, want all attributes", c, got)
		}
		if got := impl.ExtentOf(c, 0); got != 1<<len(c.Rows)-1 {
			t.Errorf("ExtentOf(%v, 0) = %d, want all objects", c, got)
		}
	}
}

func TestDerivingTheFullSets(t *testing.T) {
	for _, c := range derivationContexts() {
		shared, complete, power := 1<<c.Attributes-1, 0, 1
		for _, row := range c.Rows {
			shared &= row
			if row == 1<<c.Attributes-1 {
				complete += power
			}
			power *= 2
		}
		allObjects, allAttributes := 1<<len(c.Rows)-1, 1<<c.Attributes-1
		if got := impl.IntentOf(c, allObjects); got != shared {
			t.Errorf("the intent of all objects of %v is %d, want %d", c, got, shared)
		}
		if got := impl.ExtentOf(c, allAttributes); got != complete {
			t.Errorf("the extent of all attributes of %v is %d, want %d", c, got, complete)
		}
		if impl.ObjectClosure(c, allObjects) != allObjects || impl.ClosureOf(c, allAttributes) != allAttributes || !impl.IsClosed(c, allAttributes) {
			t.Errorf("a full set of %v is not closed", c)
		}
	}
}

func TestDerivingWithoutObjects(t *testing.T) {
	for n := range 7 {
		full := 1<<n - 1
		for _, c := range []impl.Context{context(n), {Attributes: n, Rows: []int{}}} {
			if impl.IntentOf(c, 0) != full || impl.ObjectClosure(c, 0) != 0 {
				t.Errorf("the empty set of objects of %v: %d, %d", c, impl.IntentOf(c, 0), impl.ObjectClosure(c, 0))
			}
			for s := range 1 << n {
				if impl.ExtentOf(c, s) != 0 || impl.ClosureOf(c, s) != full || impl.IsClosed(c, s) != (s == full) {
					t.Errorf("the attributes %d of %v: %d, %d", s, c, impl.ExtentOf(c, s), impl.ClosureOf(c, s))
				}
			}
			rejectsObjects(t, c, 1)
		}
	}
}

func TestDerivingWithoutAttributes(t *testing.T) {
	for objects := range 9 {
		c := context(0, make([]int, objects)...)
		full := 1<<objects - 1
		if impl.ExtentOf(c, 0) != full || impl.ClosureOf(c, 0) != 0 || !impl.IsClosed(c, 0) {
			t.Errorf("the empty set of attributes of %v: %d, %d", c, impl.ExtentOf(c, 0), impl.ClosureOf(c, 0))
		}
		for s := range 1 << objects {
			if impl.IntentOf(c, s) != 0 || impl.ObjectClosure(c, s) != full {
				t.Errorf("the objects %d of %v: %d, %d", s, c, impl.IntentOf(c, s), impl.ObjectClosure(c, s))
			}
		}
		rejectsAttributes(t, c, 1)
	}
}

// 8 objects and 6 attributes; the highest bits decide.
func TestDerivingTheGreatestContexts(t *testing.T) {
	c := context(6, 62, 61, 59, 55, 47, 31, 63, 63)
	for m := range 6 {
		if got, want := impl.ExtentOf(c, 1<<m), 255-1<<m; got != want {
			t.Errorf("ExtentOf(%v, %d) = %d, want %d", c, 1<<m, got, want)
		}
		if got, want := impl.IntentOf(c, 192+1<<m), 63-1<<m; got != want {
			t.Errorf("IntentOf(%v, %d) = %d, want %d", c, 192+1<<m, got, want)
		}
	}
	for s := range 64 {
		if !impl.IsClosed(c, s) || impl.ExtentOf(c, s) != 255-s {
			t.Errorf("ExtentOf(%v, %d) = %d, want %d", c, s, impl.ExtentOf(c, s), 255-s)
		}
	}
	if impl.IntentOf(c, 255) != 0 || impl.IntentOf(c, 128) != 63 || impl.ObjectClosure(c, 128) != 192 || impl.ObjectClosure(c, 0) != 192 {
		t.Errorf("the last objects of %v: %d, %d", c, impl.IntentOf(c, 128), impl.ObjectClosure(c, 128))
	}
	last := context(6, 0, 0, 0, 0, 0, 0, 0, 32)
	if impl.ExtentOf(last, 32) != 128 || impl.IntentOf(last, 128) != 32 || impl.IntentOf(last, 192) != 0 || impl.ExtentOf(last, 48) != 0 {
		t.Errorf("the last object and attribute of %v: %d, %d", last, impl.ExtentOf(last, 32), impl.IntentOf(last, 128))
	}
}

func TestDerivingNumbersThatAreNoSets(t *testing.T) {
	for _, c := range sampleContexts() {
		objectPower, attributePower := 1<<len(c.Rows), 1<<c.Attributes
		for _, s := range noSetNumbers() {
			rejectsObjects(t, c, s)
			rejectsAttributes(t, c, s)
		}
		for extra := range 300 {
			rejectsObjects(t, c, objectPower+extra)
			rejectsObjects(t, c, -1-extra)
			rejectsAttributes(t, c, attributePower+extra)
			rejectsAttributes(t, c, -1-extra)
		}
	}
}

// A number that is a set of more elements than there are is rejected, although the numbers of objects and of attributes differ.
func TestSetsOfTheOtherKind(t *testing.T) {
	tall, wide := context(2, 1, 2, 3, 0, 3), context(5, 31, 30)
	if impl.IntentOf(tall, 16) != 3 || impl.ObjectClosure(tall, 16) != 20 || impl.ExtentOf(wide, 16) != 3 || impl.ClosureOf(wide, 16) != 30 {
		t.Error("a set with the greatest element is not derived")
	}
	rejectsAttributes(t, tall, 4)
	rejectsAttributes(t, tall, 16)
	rejectsObjects(t, wide, 4)
	rejectsObjects(t, wide, 16)
}

func TestDerivingWithoutAContext(t *testing.T) {
	for _, c := range noContexts() {
		for _, s := range append(noSetNumbers(), 0, 1, 2, 3, 63, 255) {
			rejectsObjects(t, c, s)
			rejectsAttributes(t, c, s)
		}
	}
	// Only the last row makes this no context: the sets would have derivations without it.
	for s := range 8 {
		rejectsObjects(t, context(2, 3, 3, 4), s)
		rejectsAttributes(t, context(2, 3, 3, 4), s)
	}
}

// Promise 31 for chapter 4.
func TestDerivationsKeepTheirRows(t *testing.T) {
	kept := []int{3, 6, 5, 0, 7, 1, 2, 4, 3, 9, -1}
	for size := range len(kept) + 1 {
		rows := slices.Clone(kept)
		c := context(3, rows[:size]...)
		for s := -1; s <= 256; s++ {
			impl.IntentOf(c, s)
			impl.ExtentOf(c, s)
			impl.ClosureOf(c, s)
			impl.ObjectClosure(c, s)
			impl.IsClosed(c, s)
		}
		if !slices.Equal(rows, kept) {
			t.Errorf("the rows of a context of %d objects are changed to %v", size, rows)
		}
	}
}
