package tests

import (
	"math"
	"slices"
	"strings"
	"testing"

	"loop.example/g00596/impl"
)

// setsOf reads texts of sets with commas between them; none is the text of no sets.
func setsOf(text string) []int {
	var sets []int
	if text != "none" {
		for _, part := range strings.Split(text, ",") {
			sets = append(sets, setOf(part))
		}
	}
	return sets
}

func textOfSets(sets []int) string {
	_, text, _ := strings.Cut(textOfContext(context(8, sets...)), " ")
	return text
}

// commonSet intersects the sets element by element.
func commonSet(s, t int) int {
	in, of := membersOf(s), membersOf(t)
	for e := range in {
		in[e] = in[e] && of[e]
	}
	return setOfMembers(in)
}

// isFamilyBySearch asks one condition after the other.
func isFamilyBySearch(n int, list []int) bool {
	if n < 0 || n > 6 {
		return false
	}
	for k, s := range list {
		if s < 0 || s >= 1<<n || k > 0 && !comesBefore(list[k-1], s) {
			return false
		}
	}
	for _, s := range list {
		for _, t := range list {
			if !slices.Contains(list, commonSet(s, t)) {
				return false
			}
		}
	}
	return slices.Contains(list, 1<<n-1)
}

// irreducibleBySearch returns the sets of a family that differ from what the larger ones have in common.
func irreducibleBySearch(n int, family []int) []int {
	var found []int
	for _, s := range family {
		common := 1<<n - 1
		for _, t := range family {
			if t != s && hasAllOf(t, s) {
				common = commonSet(common, t)
			}
		}
		if common != s {
			found = append(found, s)
		}
	}
	return found
}

// familiesOver returns all lists of sets of n elements in lectic order, or each of them after so many others.
func familiesOver(n, stride int) [][]int {
	var lists [][]int
	sets := inLecticOrder(setsOver(n))
	for chosen := 0; chosen < 1<<len(sets); chosen += stride {
		var list []int
		for k, rest := 0, chosen; rest > 0; k, rest = k+1, rest/2 {
			if rest%2 == 1 {
				list = append(list, sets[k])
			}
		}
		lists = append(lists, list)
	}
	return lists
}

// sizedFamily is a closure family of n elements.
type sizedFamily struct {
	n    int
	sets []int
}

// sampleFamilies returns the closure families of few elements and those of the lists of rules.
func sampleFamilies() []sizedFamily {
	var families []sizedFamily
	for n := range 4 {
		for _, list := range familiesOver(n, 1) {
			if isFamilyBySearch(n, list) {
				families = append(families, sizedFamily{n, list})
			}
		}
	}
	for _, list := range append(sizedLists(6), manyModels()...) {
		families = append(families, sizedFamily{list.n, inLecticOrder(modelsBySearch(list.n, list.rules))})
	}
	return families
}

// noTriples are the rules by which a set of three of five attributes is the full set; ten sets are irreducible by them.
const noTriples = "abc>de abd>ce abe>cd acd>be ace>bd ade>bc bcd>ae bce>ad bde>ac cde>ab"

// manyModels returns lists with about MaxObjects irreducible models.
func manyModels() []sizedRules {
	var lists []sizedRules
	for _, text := range []string{"", " ab>cde", " ab>cde cd>abe", " ab>cde cd>abe de>abc", " e>abcd", " d>abce e>abcd", " a>b", " a>b c>d"} {
		lists = append(lists, sizedRules{5, rulesOf(noTriples + text)}, sizedRules{6, rulesOf(noTriples + text)})
	}
	return lists
}

func checkModels(t *testing.T, list sizedRules, models, irreducible []int) {
	t.Helper()
	if got, ok := impl.ModelsOf(list.n, list.rules); !ok || !slices.Equal(got, models) {
		t.Fatalf("ModelsOf(%d, %s) = %s, %v, want %s", list.n, textOfRules(list.rules), textOfSets(got), ok, textOfSets(models))
	}
	if got, ok := impl.IrreducibleModels(list.n, list.rules); !ok || !slices.Equal(got, irreducible) {
		t.Fatalf("IrreducibleModels(%d, %s) = %s, %v, want %s", list.n, textOfRules(list.rules), textOfSets(got), ok, textOfSets(irreducible))
	}
	if !impl.IsClosureFamily(list.n, models) {
		t.Fatalf("IsClosureFamily(%d, %s) = false", list.n, textOfSets(models))
	}
	want := context(list.n, irreducible...)
	fits := len(irreducible) <= 8
	if !fits {
		want = impl.Context{}
	}
	if got, ok := impl.ContextOfRules(list.n, list.rules); ok != fits || !sameContext(got, want) {
		t.Fatalf("ContextOfRules(%d, %s) = %v, %v, want %v", list.n, textOfRules(list.rules), got, ok, want)
	}
	if got, ok := impl.ContextOfFamily(list.n, models); ok != fits || !sameContext(got, want) {
		t.Fatalf("ContextOfFamily(%d, %s) = %v, %v, but ContextOfRules = %v", list.n, textOfSets(models), got, ok, want)
	}
}

func TestModels(t *testing.T) {
	cases := []struct {
		n                          int
		rules, models, irreducible string
	}{
		{3, "a>b b>c", "-,c,bc,abc", "-,c,bc"},
		{3, "b>c a>b", "-,c,bc,abc", "-,c,bc"},
		{3, "a>bc", "-,c,b,bc,abc", "c,b,bc"},
		{3, "ab>c", "-,c,b,bc,a,ac,abc", "b,bc,a,ac"},
		{3, "c>a c>b", "-,b,a,ab,abc", "b,a,ab"},
		{4, "d>c bd>a a>b ac>d", "-,c,cd,b,bc,ab,abcd", "cd,bc,ab"},
		{2, "a>b b>a", "-,ab", "-"},
		{2, "a>b", "-,b,ab", "-,b"},
		{2, "b>a", "-,a,ab", "-,a"},
		// No rules, and rules that follow from nothing.
		{1, "none", "-,a", "-"},
		{2, "none", "-,b,a,ab", "b,a"},
		{3, "none", "-,c,b,bc,a,ac,ab,abc", "bc,ac,ab"},
		{3, "->- a>a abc>b", "-,c,b,bc,a,ac,ab,abc", "bc,ac,ab"},
		// No attributes.
		{0, "none", "-", "none"},
		{0, "->-", "-", "none"},
		{0, "->- ->-", "-", "none"},
		// The only model is the full set, which no larger one can have as a part: it is what no sets have in common.
		{1, "->a", "a", "none"},
		{2, "->ab", "ab", "none"},
		{2, "->a a>b", "ab", "none"},
		{3, "a>b b>c ->a", "abc", "none"},
		{6, "->abcdef", "abcdef", "none"},
		{6, "->abc abc>d d>e ae>f", "abcdef", "none"},
		// Rules from the empty set.
		{3, "->a", "a,ac,ab,abc", "ac,ab"},
		{3, "->c a>b", "c,bc,abc", "c,bc"},
		{6, "->abcde", "abcde,abcdef", "abcde"},
		// Equal rules twice.
		{2, "a>b a>b", "-,b,ab", "-,b"},
	}
	for _, c := range cases {
		checkModels(t, sizedRules{c.n, rulesOf(c.rules)}, setsOf(c.models), setsOf(c.irreducible))
	}
}

func TestModelsByTheirDefinition(t *testing.T) {
	for _, list := range append(sizedLists(6), manyModels()...) {
		models := inLecticOrder(modelsBySearch(list.n, list.rules))
		if !isFamilyBySearch(list.n, models) {
			t.Fatalf("the models of %s are no closure family", textOfRules(list.rules))
		}
		checkModels(t, list, models, irreducibleBySearch(list.n, models))
	}
	for n := range 7 {
		checkModels(t, sizedRules{n, nil}, inLecticOrder(setsOver(n)), irreducibleBySearch(n, inLecticOrder(setsOver(n))))
		checkModels(t, sizedRules{n, []impl.Rule{rule(0, 1<<n-1)}}, []int{1<<n - 1}, nil)
	}
}

// The order and the repetition of rules make no difference, and n counts: a further element is in models freely.
func TestModelsOfReorderedRules(t *testing.T) {
	for _, list := range sizedLists(6) {
		turned := slices.Clone(list.rules)
		slices.Reverse(turned)
		models, _ := impl.ModelsOf(list.n, list.rules)
		checkModels(t, sizedRules{list.n, turned}, models, irreducibleBySearch(list.n, models))
		if list.n < 6 {
			wider, ok := impl.ModelsOf(list.n+1, list.rules)
			if !ok || len(wider) != 2*len(models) {
				t.Fatalf("ModelsOf(%d, %s) = %s, %v, and those of %d are %s", list.n+1, textOfRules(list.rules), textOfSets(wider), ok, list.n, textOfSets(models))
			}
		}
	}
}

// Promise 13.
func TestRulesHoldInTheContextOfRulesIfTheyFollow(t *testing.T) {
	given, missing := 0, 0
	for _, list := range append(sizedLists(6), manyModels()...) {
		c, ok := impl.ContextOfRules(list.n, list.rules)
		if !ok {
			missing++
			continue
		}
		given++
		models := modelsBySearch(list.n, list.rules)
		for _, r := range fewRulesOver(list.n, 200) {
			want := hasAllOf(commonOfModels(models, r.If), r.Then)
			if impl.HoldsIn(c, r) != want || impl.Follows(list.rules, r) != want {
				t.Fatalf("HoldsIn(%v, %s) = %v, and that it follows from %s is %v, want %v", c, textOfRule(r), impl.HoldsIn(c, r), textOfRules(list.rules), impl.Follows(list.rules, r), want)
			}
		}
		for _, r := range list.rules {
			if !impl.HoldsIn(c, r) {
				t.Fatalf("HoldsIn(%v, %s) = false", c, textOfRule(r))
			}
		}
	}
	if given < 500 || missing < 5 {
		t.Errorf("only %d lists have a context, and %d have none", given, missing)
	}
}

// Promise 13: the models are exactly the sets that ClosedBy leaves as they are.
func TestModelsAreTheSetsThatStay(t *testing.T) {
	for _, list := range append(sizedLists(6), manyModels()...) {
		var stay []int
		for s := range 1 << list.n {
			if impl.ClosedBy(list.rules, s) == s {
				stay = append(stay, s)
			}
		}
		if got, ok := impl.ModelsOf(list.n, list.rules); !ok || !slices.Equal(got, inLecticOrder(stay)) {
			t.Fatalf("ModelsOf(%d, %s) = %s, and %s stay", list.n, textOfRules(list.rules), textOfSets(got), textOfSets(stay))
		}
	}
}

// The models are the common parts of irreducible ones, none of which is the common part of others.
func TestModelsAreCommonPartsOfIrreducibleOnes(t *testing.T) {
	for _, list := range append(sizedLists(6), manyModels()...) {
		irreducible, _ := impl.IrreducibleModels(list.n, list.rules)
		models, _ := impl.ModelsOf(list.n, list.rules)
		if got := commonPartsOf(list.n, irreducible); !slices.Equal(got, models) {
			t.Fatalf("the common parts of %s are %s, and the models %s", textOfSets(irreducible), textOfSets(got), textOfSets(models))
		}
		for k, s := range irreducible {
			others := slices.Delete(slices.Clone(irreducible), k, k+1)
			if slices.Contains(commonPartsOf(list.n, others), s) {
				t.Fatalf("%s is a common part of others of IrreducibleModels(%d, %s) = %s", textOfSet(s), list.n, textOfRules(list.rules), textOfSets(irreducible))
			}
		}
	}
}

// commonPartsOf returns the common parts of all choices of the sets in lectic order; that of no sets has all n elements.
func commonPartsOf(n int, sets []int) []int {
	found := []int{1<<n - 1}
	for _, s := range sets {
		for _, t := range found {
			if common := commonSet(s, t); !slices.Contains(found, common) {
				found = append(found, common)
			}
		}
	}
	return inLecticOrder(found)
}

// The context of a family has exactly its sets as closed ones.
func TestClosedSetsOfTheContextOfAFamily(t *testing.T) {
	for _, family := range sampleFamilies() {
		c, ok := impl.ContextOfFamily(family.n, family.sets)
		if !ok {
			continue
		}
		if closed := inLecticOrder(closedBySearch(c)); !slices.Equal(closed, family.sets) {
			t.Fatalf("the context %v of %s has the closed sets %s", c, textOfSets(family.sets), textOfSets(closed))
		}
		for g := range c.Rows {
			if !impl.IsIrreducibleObject(c, g) {
				t.Fatalf("the object %d of the context %v of %s is reducible", g, c, textOfSets(family.sets))
			}
		}
	}
}

func TestContextsOfRulesUpToMaxObjects(t *testing.T) {
	cases := []struct {
		n             int
		rules, wanted string
	}{
		{5, noTriples, "de,ce,cd,be,bd,bc,ae,ad,ac,ab"},
		{5, noTriples + " ab>cde", "de,ce,cd,be,bd,bc,ae,ad,ac"},
		{5, noTriples + " ab>cde cd>abe", "de,ce,be,bd,bc,ae,ad,ac"},
		{5, noTriples + " ab>cde cd>abe de>abc", "ce,be,bd,bc,ae,ad,ac"},
		{6, "none", "bcdef,acdef,abdef,abcef,abcdf,abcde"},
	}
	for _, c := range cases {
		rules, irreducible := rulesOf(c.rules), setsOf(c.wanted)
		models := commonPartsOf(c.n, irreducible)
		checkModels(t, sizedRules{c.n, rules}, models, irreducible)
		// A list of irreducible sets of that length is no problem by itself.
		if got, ok := impl.IrreducibleModels(c.n, rules); !ok || len(got) != len(irreducible) {
			t.Errorf("IrreducibleModels(%d, %s) = %s, %v", c.n, c.rules, textOfSets(got), ok)
		}
	}
}

func TestIsClosureFamily(t *testing.T) {
	cases := []struct {
		n    int
		list string
		want bool
	}{
		{3, "-,c,bc,abc", true},
		{3, "abc", true},
		{3, "-,abc", true},
		{3, "-,c,b,bc,a,ac,ab,abc", true},
		{3, "c,bc,ac,abc", true},
		{3, "b,a,ab,abc", false},
		{3, "-,b,a,ab,abc", true},
		{3, "-,b,a,abc", true},
		{0, "-", true},
		{1, "-,a", true},
		{1, "a", true},
		{6, "abcdef", true},
		{6, "-,f,e,d,c,b,a,abcdef", true},
		// Without the full set.
		{3, "-,c,bc", false},
		{3, "-", false},
		{3, "none", false},
		{0, "none", false},
		{1, "-", false},
		{4, "abc", false},
		{6, "none", false},
		{6, "bcdef", false},
		// Without the common part of two sets.
		{3, "bc,ac,abc", false},
		{3, "b,a,abc", false},
		{3, "-,bc,ac,abc", false},
		{3, "c,bc,ac,ab,abc", false},
		{4, "-,cd,bc,ab,abcd", false},
		{6, "cdef,abcd,abcdef", false},
		{6, "cd,cdef,abcd,abcdef", true},
		// In another order.
		{3, "c,-,bc,abc", false},
		{3, "abc,bc,c,-", false},
		{3, "-,c,abc,bc", false},
		{3, "-,a,b,ab,abc", false},
		{3, "-,bc,c,abc", false},
		{2, "ab,-", false},
		// With a set twice.
		{3, "-,-,abc", false},
		{3, "-,abc,abc", false},
		{3, "-,c,c,abc", false},
		{0, "-,-", false},
		{1, "a,a", false},
		// Sets of more elements.
		{2, "-,abc", false},
		{2, "-,ab,abc", false},
		{2, "-,c,ab", false},
		{0, "a", false},
		{0, "-,a", false},
		{6, "abcdef,abcdefg", false},
		{6, "-,g,abcdef", false},
		// No number of attributes.
		{7, "abcdefg", false},
		{8, "abcdefgh", false},
		{7, "none", false},
		{-1, "-", false},
		{-1, "none", false},
	}
	for _, c := range cases {
		list := setsOf(c.list)
		if got := impl.IsClosureFamily(c.n, list); got != c.want {
			t.Errorf("IsClosureFamily(%d, %s) = %v", c.n, c.list, got)
		}
		if got, ok := impl.ContextOfFamily(c.n, list); ok != c.want || !ok && !isZeroContext(got) {
			t.Errorf("ContextOfFamily(%d, %s) = %v, %v", c.n, c.list, got, ok)
		}
	}
}

func checkFamily(t *testing.T, n int, list []int) {
	t.Helper()
	want := isFamilyBySearch(n, list)
	if got := impl.IsClosureFamily(n, list); got != want {
		t.Fatalf("IsClosureFamily(%d, %v) = %v", n, list, got)
	}
	if want {
		checkContextOfFamily(t, n, list)
	} else if c, ok := impl.ContextOfFamily(n, list); ok || !isZeroContext(c) {
		t.Fatalf("ContextOfFamily(%d, %v) = %v, %v, want false", n, list, c, ok)
	}
}

// checkContextOfFamily asks for the context of a closure family.
func checkContextOfFamily(t *testing.T, n int, family []int) {
	t.Helper()
	want := context(n, irreducibleBySearch(n, family)...)
	fits := len(want.Rows) <= 8
	if !fits {
		want = impl.Context{}
	}
	if got, ok := impl.ContextOfFamily(n, family); ok != fits || !sameContext(got, want) {
		t.Fatalf("ContextOfFamily(%d, %s) = %v, %v, want %v", n, textOfSets(family), got, ok, want)
	}
}

func TestFamiliesByTheirDefinition(t *testing.T) {
	for n := range 5 {
		stride := 1
		if n == 4 {
			stride = 7
		}
		for _, list := range familiesOver(n, stride) {
			for _, size := range []int{n, n - 1, n + 1} {
				checkFamily(t, size, list)
			}
		}
	}
	// All short lists, in every order and with numbers that are no sets.
	for n := range 3 {
		lists := [][]int{nil}
		for first := 0; first < len(lists); first++ {
			checkFamily(t, n, lists[first])
			if len(lists[first]) < 4 {
				for s := -1; s <= 1<<n; s++ {
					lists = append(lists, append(slices.Clone(lists[first]), s))
				}
			}
		}
	}
}

// Changed families: a set left out, added, repeated, or in another place.
func TestChangedFamilies(t *testing.T) {
	seen := map[bool]int{}
	for _, family := range sampleFamilies() {
		checkFamily(t, family.n, family.sets)
		for k, s := range family.sets {
			if len(family.sets) > 16 && k%5 != 0 {
				continue
			}
			changed := [][]int{
				slices.Delete(slices.Clone(family.sets), k, k+1),
				slices.Insert(slices.Clone(family.sets), k, s),
				append(slices.Clone(family.sets), s),
				slices.Insert(slices.Clone(family.sets), k, s/2),
				slices.Insert(slices.Clone(family.sets), k, -1),
				slices.Insert(slices.Clone(family.sets), k, 1<<family.n),
			}
			if k > 0 {
				swapped := slices.Clone(family.sets)
				swapped[k-1], swapped[k] = s, swapped[k-1]
				changed = append(changed, swapped)
			}
			for _, list := range changed {
				checkFamily(t, family.n, list)
				seen[isFamilyBySearch(family.n, list)]++
			}
		}
	}
	if seen[true] < 500 || seen[false] < 500 {
		t.Errorf("only %d changed lists are families, and %d are not", seen[true], seen[false])
	}
}

func rejectsModels(t *testing.T, n int, rules []impl.Rule) {
	t.Helper()
	if got, ok := impl.ModelsOf(n, rules); ok || len(got) != 0 {
		t.Fatalf("ModelsOf(%d, %v) = %v, %v, want false", n, rules, got, ok)
	}
	if got, ok := impl.IrreducibleModels(n, rules); ok || len(got) != 0 {
		t.Fatalf("IrreducibleModels(%d, %v) = %v, %v, want false", n, rules, got, ok)
	}
	if got, ok := impl.ContextOfRules(n, rules); ok || !isZeroContext(got) {
		t.Fatalf("ContextOfRules(%d, %v) = %v, %v, want false", n, rules, got, ok)
	}
}

func TestModelsReject(t *testing.T) {
	for _, n := range append(noSizes(), 7, 8) {
		for _, rules := range [][]impl.Rule{nil, {}, {rule(0, 0)}, {rule(1, 2)}, {rule(0, 255)}, make([]impl.Rule, 40), make([]impl.Rule, 41)} {
			rejectsModels(t, n, rules)
		}
	}
	for n := range 7 {
		beyond := []impl.Rule{rule(1<<n, 0), rule(0, 1<<n), rule(1<<n, 1<<n), rule(128, 0), rule(0, 64), rule(0, 255), rule(255, 255)}
		for _, r := range append(wrongRules(), beyond...) {
			for _, rules := range append(listsWith(r), []impl.Rule{rule(0, 0), r}, []impl.Rule{r, rule(0, 0)}, []impl.Rule{rule(0, 1<<n-1), r}) {
				rejectsModels(t, n, rules)
			}
		}
	}
}

func TestModelsUpToMaxRules(t *testing.T) {
	for n := range 7 {
		full := 1<<n - 1
		for _, r := range []impl.Rule{rule(0, 0), rule(0, full), rule(full, 0), rule(full, full)} {
			for _, size := range []int{1, 38, 39, 40, 41, 42, 80, 300} {
				rules := slices.Repeat([]impl.Rule{r}, size)
				if size > 40 {
					rejectsModels(t, n, rules)
					continue
				}
				models := inLecticOrder(modelsBySearch(n, rules[:1]))
				checkModels(t, sizedRules{n, rules}, models, irreducibleBySearch(n, models))
			}
		}
	}
	rules := make([]impl.Rule, 40)
	rules[0], rules[39] = rule(1, 2), rule(2, 4)
	checkModels(t, sizedRules{3, rules}, setsOf("-,c,bc,abc"), setsOf("-,c,bc"))
}

func TestFamiliesReject(t *testing.T) {
	for _, n := range append(noSizes(), 7, 8) {
		for _, list := range [][]int{nil, {}, {0}, {1}, {0, 1}, {0, 63}, {127}, {255}, {0, 127}, {0, 255}, {-1}, {0, -1}} {
			checkFamily(t, n, list)
			if impl.IsClosureFamily(n, list) {
				t.Errorf("IsClosureFamily(%d, %v) = true", n, list)
			}
		}
	}
	for n := range 7 {
		full := 1<<n - 1
		for _, s := range append(noSetNumbers(), full+1, full+2, 64, 127, 128, 255) {
			for _, list := range [][]int{{s}, {s, full}, {full, s}, {0, s, full}, {0, full, s}, {s, 0, full}} {
				if impl.IsClosureFamily(n, list) {
					t.Errorf("IsClosureFamily(%d, %v) = true", n, list)
				}
				if c, ok := impl.ContextOfFamily(n, list); ok || !isZeroContext(c) {
					t.Errorf("ContextOfFamily(%d, %v) = %v, %v", n, list, c, ok)
				}
			}
		}
		// The list is empty, or a family many times over.
		for _, list := range [][]int{nil, {}, slices.Repeat([]int{full}, 2), slices.Repeat([]int{full}, 3000), slices.Repeat(inLecticOrder(setsOver(n)), 2)} {
			if impl.IsClosureFamily(n, list) {
				t.Errorf("IsClosureFamily(%d) of %d sets = true", n, len(list))
			}
			if c, ok := impl.ContextOfFamily(n, list); ok || !isZeroContext(c) {
				t.Errorf("ContextOfFamily(%d) of %d sets = %v, %v", n, len(list), c, ok)
			}
		}
	}
}

// Promise 31 for chapter 13; what stands behind the rules and the sets is no part of them.
func TestModelFunctionsKeepTheirArguments(t *testing.T) {
	keptRules := []impl.Rule{rule(8, 4), rule(10, 1), rule(1, 2), rule(5, 8), rule(0, 0), rule(2, 1), rule(-1, 300)}
	for size := range len(keptRules) + 1 {
		rules := slices.Clone(keptRules)
		for n := -1; n < 9; n++ {
			impl.ModelsOf(n, rules[:size])
			impl.IrreducibleModels(n, rules[:size])
			impl.ContextOfRules(n, rules[:size])
		}
		if !sameRules(rules, keptRules) {
			t.Errorf("a list of %d rules is changed to %v", size, rules)
		}
	}
	for _, keptSets := range [][]int{{0, 4, 2, 6, 1, 5, 3, 7, 8, -1, 0}, {7, 3, 5, 1, 6, 2, 4, 0, 7, 7}, {0, 0, 7, 300, -5}} {
		for size := range len(keptSets) + 1 {
			sets := slices.Clone(keptSets)
			for n := -1; n < 9; n++ {
				impl.IsClosureFamily(n, sets[:size])
				impl.ContextOfFamily(n, sets[:size])
			}
			if !slices.Equal(sets, keptSets) {
				t.Errorf("a list of %d sets is changed to %v", size, sets)
			}
		}
	}
}

// Promise 31 for chapter 13.
func TestModelsAreNewEachTime(t *testing.T) {
	rules := rulesOf("a>b b>c")
	family := setsOf("-,c,bc,abc")
	check := func() {
		t.Helper()
		checkModels(t, sizedRules{3, rules}, setsOf("-,c,bc,abc"), setsOf("-,c,bc"))
		if !sameRules(rules, rulesOf("a>b b>c")) || !slices.Equal(family, setsOf("-,c,bc,abc")) {
			t.Error("writing into a result changes an argument")
		}
	}
	models, _ := impl.ModelsOf(3, rules)
	overwrite(models, -1)
	check()
	irreducible, _ := impl.IrreducibleModels(3, rules)
	overwrite(irreducible, -1)
	check()
	c, _ := impl.ContextOfRules(3, rules)
	overwrite(c.Rows, -1)
	check()
	d, _ := impl.ContextOfFamily(3, family)
	overwrite(d.Rows, -1)
	check()
	d, _ = impl.ContextOfFamily(3, family)
	overwrite(family, 7)
	overwrite(rules, rule(0, 7))
	if !sameContext(d, context(3, 0, 4, 6)) {
		t.Errorf("writing into the family changes its context to %v", d)
	}
}

// Promise 31 for chapter 13: no numbers are too great.
func TestModelFunctionsAreTotal(t *testing.T) {
	numbers := []int{math.MinInt, math.MinInt + 1, -1 << 32, -256, -1, 0, 1, 63, 255, 256, 1 << 32, 1<<63 - 2, math.MaxInt}
	for _, n := range numbers {
		for _, from := range numbers {
			for _, to := range numbers {
				checkFamily(t, n, []int{from, to})
				list := sizedRules{n, []impl.Rule{rule(from, to)}}
				if n < 0 || n > 6 || min(from, to) < 0 || max(from, to) >= 1<<n {
					rejectsModels(t, n, list.rules)
					continue
				}
				models := inLecticOrder(modelsBySearch(n, list.rules))
				checkModels(t, list, models, irreducibleBySearch(n, models))
			}
		}
	}
}
