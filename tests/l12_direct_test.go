package tests

import (
	"math"
	"slices"
	"testing"

	"loop.example/g00596/impl"
)

// oneStepBySearch adds what the rules add whose If is in the set given; what they add makes no other rule apply.
func oneStepBySearch(rules []impl.Rule, s int) int {
	reached := membersOf(s)
	for _, r := range rules {
		if hasAllOf(s, r.If) {
			for e, in := range membersOf(r.Then) {
				reached[e] = reached[e] || in
			}
		}
	}
	return setOfMembers(reached)
}

// isDirectBySearch compares one step with what all models of n elements have in common.
func isDirectBySearch(n int, rules []impl.Rule) bool {
	models := modelsBySearch(n, rules)
	for s := range 1 << n {
		if oneStepBySearch(rules, s) != commonOfModels(models, s) {
			return false
		}
	}
	return true
}

// ownBySearch asks each attribute on its own whether all elements of the set are needed for it.
func ownBySearch(c impl.Context, attributes int) int {
	elements := membersOf(attributes)
	closure := membersOf(closureBySearch(c, attributes))
	for e, in := range elements {
		closure[e] = closure[e] && !in
		if in {
			for m, known := range membersOf(closureBySearch(c, attributes-1<<e)) {
				closure[m] = closure[m] && !known
			}
		}
	}
	return setOfMembers(closure)
}

// directBySearch returns the direct base of a context.
func directBySearch(c impl.Context) []impl.Rule {
	var premises []int
	for s := range 1 << c.Attributes {
		if ownBySearch(c, s) != 0 {
			premises = append(premises, s)
		}
	}
	return rulesToClosures(inLecticOrder(premises), func(s int) int { return ownBySearch(c, s) })
}

// ifsOf returns If of all rules.
func ifsOf(rules []impl.Rule) []int {
	var sets []int
	for _, r := range rules {
		sets = append(sets, r.If)
	}
	return sets
}

func TestOneStep(t *testing.T) {
	cases := []struct{ rules, set, want string }{
		{"a>b b>c", "a", "ab"},
		{"a>b b>c", "ab", "abc"},
		{"a>b b>c", "b", "bc"},
		{"a>b b>c", "c", "c"},
		{"a>b b>c", "-", "-"},
		{"a>b b>c", "ah", "abh"},
		// All apply at the same time, whatever their order: no conclusion makes another rule apply.
		{"b>c a>b", "a", "ab"},
		{"a>b ab>c", "a", "ab"},
		{"ab>c a>b", "a", "ab"},
		{"a>b b>c c>d d>e", "a", "ab"},
		{"a>b b>c c>d d>e", "ac", "abcd"},
		{"d>e c>d b>c a>b", "ac", "abcd"},
		{"a>b c>d bd>e", "ac", "abcd"},
		{"a>b b>a", "a", "ab"},
		{"a>b b>a b>c", "a", "ab"},
		{"a>b a>c bc>d", "a", "abc"},
		{"a>a a>b b>c", "a", "ab"},
		{"->a a>b", "-", "a"},
		{"a>b ->a", "-", "a"},
		{"->a a>b b>c", "b", "abc"},
		{"->a ab>c", "b", "ab"},
		// Each rule whose If is a subset counts, and all elements of its If are needed.
		{"a>b a>c b>d", "ab", "abcd"},
		{"ab>c bc>d ac>e", "ab", "abc"},
		{"ab>c bc>d ac>e", "abc", "abcde"},
		{"ab>c", "a", "a"},
		{"ab>c", "b", "b"},
		{"ab>c", "bd", "bd"},
		{"a>bcd a>de", "a", "abcde"},
		{"a>b a>b", "a", "ab"},
		// Rules with empty sets.
		{"->-", "-", "-"},
		{"->-", "ce", "ce"},
		{"a>-", "a", "a"},
		{"a>-", "-", "-"},
		{"->a", "-", "a"},
		{"->a", "b", "ab"},
		{"->a ->b ->c", "-", "abc"},
		{"->abcdefgh", "-", "abcdefgh"},
		{"abcdefgh>-", "abcdefgh", "abcdefgh"},
		// Without rules a set stays as it is.
		{"none", "-", "-"},
		{"none", "bdh", "bdh"},
		{"none", "abcdefgh", "abcdefgh"},
		// All elements count, also those that no context has as attributes.
		{"g>h f>g", "f", "fg"},
		{"g>h f>g", "fg", "fgh"},
		{"abcdefg>h", "abcdefg", "abcdefgh"},
		{"abcdefg>h", "abcdef", "abcdef"},
	}
	for _, c := range cases {
		if got := impl.OneStep(rulesOf(c.rules), setOf(c.set)); got != setOf(c.want) {
			t.Errorf("OneStep(%s, %s) = %d, want %s", c.rules, c.set, got, c.want)
		}
	}
}

func TestOneStepByItsDefinition(t *testing.T) {
	for _, list := range sizedLists(8) {
		turned := slices.Clone(list.rules)
		slices.Reverse(turned)
		for s := range 256 {
			want := oneStepBySearch(list.rules, s)
			if got := impl.OneStep(list.rules, s); got != want {
				t.Fatalf("OneStep(%s, %s) = %d, want %d", textOfRules(list.rules), textOfSet(s), got, want)
			}
			if got := impl.OneStep(turned, s); got != want {
				t.Fatalf("OneStep(%s, %s) = %d, want %d", textOfRules(turned), textOfSet(s), got, want)
			}
		}
	}
}

// As many steps as elements give what ClosedBy gives, and a set from which no step leads is one that respects all rules.
func TestStepsLeadToClosedBy(t *testing.T) {
	for _, list := range sizedLists(8) {
		for s := range 256 {
			now := s
			for range 8 {
				now = impl.OneStep(list.rules, now)
			}
			if want := impl.ClosedBy(list.rules, s); now != want {
				t.Fatalf("eight times OneStep(%s, %s) = %d, and ClosedBy = %d", textOfRules(list.rules), textOfSet(s), now, want)
			}
			isModel := !slices.ContainsFunc(list.rules, func(r impl.Rule) bool { return !respectsBySearch(r, s) })
			if stays := impl.OneStep(list.rules, s) == s; stays != isModel {
				t.Fatalf("that %s respects %s is told as %v", textOfSet(s), textOfRules(list.rules), stays)
			}
		}
	}
}

func TestOneStepKeepsWhatIsRejected(t *testing.T) {
	sets := append(noSetNumbers(), 0, 1, 2, 3, 5, 128, 254, 255)
	for _, r := range wrongRules() {
		for _, rules := range append(listsWith(r), []impl.Rule{rule(0, 255), r}, []impl.Rule{r, rule(0, 255)}) {
			for _, s := range sets {
				if got := impl.OneStep(rules, s); got != s {
					t.Fatalf("OneStep(%v, %d) = %d, want the set unchanged", rules, s, got)
				}
			}
		}
	}
	for _, s := range noSetNumbers() {
		for _, rules := range [][]impl.Rule{nil, {}, {rule(0, 0)}, {rule(0, 255)}, {rule(1, 2), rule(2, 4)}, {rule(255, 255)}} {
			if got := impl.OneStep(rules, s); got != s {
				t.Errorf("OneStep(%v, %d) = %d, want the number unchanged", rules, s, got)
			}
		}
	}
}

// OneStep has no limit on the number of rules.
func TestOneStepOfManyRules(t *testing.T) {
	for _, size := range []int{1, 39, 40, 41, 42, 300, 1000} {
		rules := make([]impl.Rule, size)
		rules[size-1] = rule(1, 128)
		if impl.OneStep(rules, 3) != 131 || impl.OneStep(rules, 2) != 2 {
			t.Errorf("OneStep of %d rules = %d and %d, want 131 and 2", size, impl.OneStep(rules, 3), impl.OneStep(rules, 2))
		}
	}
}

func TestIsDirect(t *testing.T) {
	cases := []struct {
		n     int
		rules string
		want  bool
	}{
		{3, "a>b b>c", false},
		{3, "b>c a>b", false},
		{3, "a>bc b>c", true},
		{3, "b>c a>bc", true},
		{3, "a>b b>c a>c", true},
		{3, "a>b b>c ab>c", false},
		{2, "a>b b>a", true},
		{3, "a>b b>c c>a", false},
		{3, "a>bc b>ac c>ab", true},
		{3, "a>b ab>c", false},
		{3, "a>b ab>c a>c", true},
		{3, "a>bc ab>c", true},
		{4, "d>c bd>a a>b ac>d", true},
		{4, "d>cd bcd>abcd a>ab abc>abcd", false},
		{4, "d>c bd>a a>b abc>d", false},
		// Two conclusions together fire a further rule.
		{5, "a>b c>d bd>e", false},
		{5, "a>b c>d bd>e ac>e", false},
		{5, "a>b c>d bd>e ac>e ad>e", false},
		{5, "a>b c>d bd>e ac>e ad>e bc>e", true},
		{6, "a>b c>d bd>e ac>e ad>e bc>e", true},
		// The last set counts as well as the first one.
		{6, "f>e ef>d", false},
		{6, "f>e ef>d f>d", true},
		{6, "bcdef>a ab>-", true},
		{6, "cdef>b bcdef>a", false},
		// The empty list, and rules that follow from nothing.
		{0, "none", true},
		{1, "none", true},
		{6, "none", true},
		{0, "->-", true},
		{0, "->- ->-", true},
		{1, "a>a", true},
		{3, "->- a>- ab>a abc>bc", true},
		// Rules with empty sets.
		{1, "->a", true},
		{2, "->a a>b", false},
		{2, "a>b ->a", false},
		{2, "->ab a>b", true},
		{2, "->a a>b ->b", true},
		{3, "->a b>c", true},
		{3, "->a ab>c", false},
		{3, "->a ab>c b>c", true},
		{6, "->abcdef", true},
		{6, "->abcdef a>b", true},
		{6, "->abcde abcde>f", false},
		// Equal rules twice.
		{3, "a>b a>b", true},
		{3, "a>b b>c a>b", false},
		// Lists that are no rules of n attributes.
		{2, "a>b b>c", false},
		{2, "a>bc b>c", false},
		{1, "a>b", false},
		{0, "->a", false},
		{0, "a>-", false},
		{6, "g>-", false},
		{6, "->h", false},
		{7, "none", false},
		{8, "a>b", false},
		{-1, "none", false},
	}
	for _, c := range cases {
		if got := impl.IsDirect(c.n, rulesOf(c.rules)); got != c.want {
			t.Errorf("IsDirect(%d, %s) = %v", c.n, c.rules, got)
		}
	}
}

// closingLists returns lists that are direct and ones that become so or are no longer so by leaving a rule out.
func closingLists() []sizedRules {
	var lists []sizedRules
	for _, c := range stemContexts() {
		base := directBySearch(c)
		lists = append(lists, sizedRules{c.Attributes, base})
		for k := range base {
			lists = append(lists, sizedRules{c.Attributes, withoutPlace(base, k)})
		}
		if c.Attributes < 6 {
			closing := closingRules(c, setsOver(c.Attributes))
			lists = append(lists, sizedRules{c.Attributes, closing})
			for k := 0; k < len(closing); k += 5 {
				lists = append(lists, sizedRules{c.Attributes, withoutPlace(closing, k)})
			}
		}
	}
	return lists
}

// setsOver returns all sets of n elements.
func setsOver(n int) []int {
	var sets []int
	for s := range 1 << n {
		sets = append(sets, s)
	}
	return sets
}

// IsDirect is true exactly if OneStep and ClosedBy agree on all sets of n elements, and then on all others as well.
func TestIsDirectByItsDefinition(t *testing.T) {
	direct, others := 0, 0
	for _, list := range append(sizedLists(6), closingLists()...) {
		want := isDirectBySearch(list.n, list.rules)
		if got := impl.IsDirect(list.n, list.rules); got != want {
			t.Fatalf("IsDirect(%d, %s) = %v", list.n, textOfRules(list.rules), got)
		}
		agree := true
		for s := range 1 << list.n {
			agree = agree && impl.OneStep(list.rules, s) == impl.ClosedBy(list.rules, s)
		}
		if agree != want {
			t.Fatalf("that OneStep and ClosedBy of %s agree is %v, and IsDirect(%d) = %v", textOfRules(list.rules), agree, list.n, want)
		}
		for n := list.n; n < 7; n++ {
			if got := impl.IsDirect(n, list.rules); got != want {
				t.Fatalf("IsDirect(%d, %s) = %v, unlike that of %d", n, textOfRules(list.rules), got, list.n)
			}
		}
		if want {
			direct++
		} else {
			others++
		}
	}
	if direct < 500 || others < 500 {
		t.Errorf("only %d lists are direct, and %d are not", direct, others)
	}
}

func TestIsDirectRejects(t *testing.T) {
	for _, n := range append(noSizes(), 7, 8) {
		for _, rules := range [][]impl.Rule{nil, {}, {rule(0, 0)}, {rule(1, 2)}, {rule(0, 255)}, make([]impl.Rule, 40), make([]impl.Rule, 41)} {
			if impl.IsDirect(n, rules) {
				t.Errorf("IsDirect(%d, %v) = true", n, rules)
			}
		}
	}
	for n := range 7 {
		beyond := []impl.Rule{rule(1<<n, 0), rule(0, 1<<n), rule(1<<n, 1<<n), rule(128, 0), rule(0, 64), rule(0, 255), rule(255, 255)}
		for _, r := range append(wrongRules(), beyond...) {
			for _, rules := range append(listsWith(r), []impl.Rule{rule(0, 0), r}, []impl.Rule{r, rule(0, 0)}, []impl.Rule{rule(0, 1<<n-1), r}) {
				if impl.IsDirect(n, rules) {
					t.Fatalf("IsDirect(%d, %v) = true", n, rules)
				}
			}
		}
	}
}

func TestIsDirectUpToMaxRules(t *testing.T) {
	for n := range 7 {
		full := 1<<n - 1
		for _, r := range []impl.Rule{rule(0, 0), rule(0, full), rule(full, 0), rule(full, full)} {
			for _, size := range []int{1, 38, 39, 40, 41, 42, 80, 300} {
				rules := slices.Repeat([]impl.Rule{r}, size)
				if got := impl.IsDirect(n, rules); got != (size <= 40) {
					t.Errorf("IsDirect of %d attributes and %d rules %v = %v", n, size, r, got)
				}
			}
		}
	}
	rules := make([]impl.Rule, 40)
	rules[0], rules[39] = rule(1, 2), rule(2, 4)
	if impl.IsDirect(3, rules) {
		t.Error("IsDirect of 40 rules with a>b and b>c is true")
	}
	rules[20] = rule(1, 4)
	if !impl.IsDirect(3, rules) || impl.IsDirect(3, append(rules, rule(0, 0))) {
		t.Error("IsDirect of 40 rules with a>b, a>c and b>c is false, or of 41 true")
	}
}

func TestDirectBasesOfContexts(t *testing.T) {
	cases := []struct{ context, base string }{
		{"4 ab,b,bc,cd", "d>c bd>a a>b ac>d"},
		{"2 a,-", "b>a"},
		{"2 ab,a,-", "b>a"},
		{"3 ab,c", "b>a a>b"},
		{"3 ab,-", "c>ab b>a a>b"},
		// A premise with several elements is needed beside shorter ones.
		{"3 abc,a,b", "c>ab ab>c"},
		{"4 ab,bc,ac", "d>abc abc>d"},
		// The empty premise: what follows from it alone is no conclusion of another premise.
		{"1 a", "->a"},
		{"2 a", "->a"},
		{"2 b", "->b"},
		{"2 ab,ab", "->ab"},
		{"2 a,ab", "->a"},
		{"3 a,ab,abc", "->a c>b"},
		{"4 a,ab,abc,abcd", "->a d>bc c>b"},
		{"4 d,ad,bcd", "->d c>b b>c"},
		// Without objects.
		{"0 none", "none"},
		{"1 none", "->a"},
		{"2 none", "->ab"},
		{"6 none", "->abcdef"},
		// Without attributes.
		{"0 -", "none"},
		{"0 -,-,-", "none"},
		// Without proper premises: every set is closed.
		{"1 -", "none"},
		{"2 a,b", "none"},
		{"3 ab,bc,ac", "none"},
		{"4 abc,abd,acd,bcd", "none"},
		{"6 bcdef,acdef,abdef,abcef,abcdf,abcde,abcdef,-", "none"},
		// Only the empty and the full set are closed.
		{"2 -", "b>a a>b"},
		{"6 -", "f>abcde e>abcdf d>abcef c>abdef b>acdef a>bcdef"},
	}
	for _, k := range cases {
		c := parsedContext(t, k.context)
		if got := impl.DirectBase(c); textOfRules(got) != k.base {
			t.Errorf("DirectBase(%s) = %s, want %s", k.context, textOfRules(got), k.base)
		}
		if got, want := impl.ProperPremises(c), ifsOf(rulesOf(k.base)); !slices.Equal(got, want) {
			t.Errorf("ProperPremises(%s) = %v, want %v", k.context, got, want)
		}
		if !impl.IsDirect(c.Attributes, rulesOf(k.base)) || !impl.IsBase(c, rulesOf(k.base)) {
			t.Errorf("IsDirect or IsBase of %s and %s is false", k.context, k.base)
		}
	}
}

func TestDirectBasesByTheirDefinition(t *testing.T) {
	for _, c := range stemContexts() {
		want := directBySearch(c)
		if got := impl.DirectBase(c); !sameRules(got, want) {
			t.Fatalf("DirectBase(%v) = %s, want %s", c, textOfRules(got), textOfRules(want))
		}
		if got := impl.ProperPremises(c); !slices.Equal(got, ifsOf(want)) {
			t.Fatalf("ProperPremises(%v) = %v, want %v", c, got, ifsOf(want))
		}
	}
}

// Promise 12.
func TestDirectBasesGiveClosuresInOneStep(t *testing.T) {
	for _, c := range stemContexts() {
		base := impl.DirectBase(c)
		for s := range 1 << c.Attributes {
			want := closureBySearch(c, s)
			if got := impl.OneStep(base, s); got != want || got != impl.ClosureOf(c, s) {
				t.Fatalf("OneStep(%s, %s) = %d, want %d as in %v", textOfRules(base), textOfSet(s), got, want, c)
			}
		}
		if !impl.IsDirect(c.Attributes, base) || !isDirectBySearch(c.Attributes, base) {
			t.Fatalf("DirectBase(%v) = %s is not direct", c, textOfRules(base))
		}
		checkBase(t, c, base)
		if !impl.IsBase(c, base) || !impl.AreEquivalent(base, impl.StemBase(c)) {
			t.Fatalf("DirectBase(%v) = %s is no base", c, textOfRules(base))
		}
	}
}

// The premises of a conclusion are exactly the least sets without it from which it follows.
func TestPremisesAreTheLeastOnes(t *testing.T) {
	for _, c := range stemContexts() {
		all := setsOver(c.Attributes)
		var closures []int
		for _, s := range all {
			closures = append(closures, closureBySearch(c, s))
		}
		for m := range c.Attributes {
			var least []int
			for s, closure := range closures {
				if !membersOf(closure)[m] || membersOf(s)[m] {
					continue
				}
				smaller := func(p int) bool { return p != s && hasAllOf(s, p) && membersOf(closures[p])[m] }
				if !slices.ContainsFunc(all, smaller) {
					least = append(least, s)
				}
			}
			var premises []int
			for _, r := range impl.DirectBase(c) {
				if membersOf(r.Then)[m] {
					premises = append(premises, r.If)
				}
			}
			if want := inLecticOrder(least); !slices.Equal(premises, want) {
				t.Fatalf("DirectBase(%v) has the premises %v of attribute %d, want %v", c, premises, m, want)
			}
		}
	}
}

// Each element of each conclusion is needed for the one step.
func TestNothingCanBeLeftOutOfTheDirectBase(t *testing.T) {
	for _, c := range stemContexts() {
		base := impl.DirectBase(c)
		for k, r := range base {
			for e, in := range membersOf(r.Then) {
				if !in {
					continue
				}
				less := slices.Clone(base)
				less[k].Then -= 1 << e
				if impl.OneStep(less, r.If) == closureBySearch(c, r.If) {
					t.Fatalf("element %d of %s is not needed in DirectBase(%v) = %s", e, textOfRule(r), c, textOfRules(base))
				}
			}
		}
	}
}

// The empty set is a proper premise exactly if all objects have an attribute in common.
func TestTheEmptyPremise(t *testing.T) {
	for _, c := range stemContexts() {
		common := closureBySearch(c, 0)
		base := impl.DirectBase(c)
		if got := len(base) > 0 && base[0].If == 0; got != (common != 0) {
			t.Fatalf("that the empty set is a premise in DirectBase(%v) = %s is %v", c, textOfRules(base), got)
		}
		for k, r := range base {
			if r.If == 0 && (k != 0 || r.Then != common) {
				t.Fatalf("%s is at place %d in DirectBase(%v)", textOfRule(r), k, c)
			}
			if r.If != 0 && (r.If|r.Then)&common != 0 {
				t.Fatalf("%s of DirectBase(%v) has what follows from nothing", textOfRule(r), c)
			}
		}
	}
}

func TestContextsWithoutProperPremises(t *testing.T) {
	without := 0
	for _, c := range stemContexts() {
		want := len(closedBySearch(c)) == 1<<c.Attributes
		if got := len(impl.ProperPremises(c)) == 0; got != want || got != (len(impl.DirectBase(c)) == 0) {
			t.Fatalf("that %v has no proper premises is %v, want %v", c, got, want)
		}
		if want {
			without++
		}
	}
	if without == 0 {
		t.Error("no context is without proper premises")
	}
}

func TestDirectBasesWithoutObjectsOrAttributes(t *testing.T) {
	for n := 1; n < 7; n++ {
		full := 1<<n - 1
		for _, c := range []impl.Context{context(n), {Attributes: n, Rows: []int{}}, context(n, full), context(n, full, full)} {
			if got := impl.DirectBase(c); !sameRules(got, []impl.Rule{rule(0, full)}) {
				t.Errorf("DirectBase(%v) = %v", c, got)
			}
			if got := impl.ProperPremises(c); !slices.Equal(got, []int{0}) {
				t.Errorf("ProperPremises(%v) = %v", c, got)
			}
		}
	}
	for objects := range 9 {
		c := context(0, make([]int, objects)...)
		if got := impl.DirectBase(c); len(got) != 0 {
			t.Errorf("DirectBase(%v) = %v, want none", c, got)
		}
		if got := impl.ProperPremises(c); len(got) != 0 {
			t.Errorf("ProperPremises(%v) = %v, want none", c, got)
		}
	}
}

func TestDirectBasesWithoutAContext(t *testing.T) {
	for _, c := range append(noContexts(), context(2, 3, 3, 4), context(2, 3, -1), context(7, 127), context(-1)) {
		if got := impl.DirectBase(c); len(got) != 0 {
			t.Errorf("DirectBase(%v) = %v, want none", c, got)
		}
		if got := impl.ProperPremises(c); len(got) != 0 {
			t.Errorf("ProperPremises(%v) = %v, want none", c, got)
		}
	}
}

// Promise 31 for chapter 12; what stands behind the rows and the rules is no part of them.
func TestDirectFunctionsKeepTheirArguments(t *testing.T) {
	keptRows := []int{3, 2, 6, 12, 1, 9, 2, 15, 0, -1}
	for size := range len(keptRows) + 1 {
		rows := slices.Clone(keptRows)
		impl.ProperPremises(context(4, rows[:size]...))
		impl.DirectBase(context(4, rows[:size]...))
		if !slices.Equal(rows, keptRows) {
			t.Errorf("the rows of a context of %d objects are changed to %v", size, rows)
		}
	}
	keptRules := []impl.Rule{rule(8, 4), rule(10, 1), rule(1, 2), rule(5, 8), rule(0, 0), rule(2, 1), rule(-1, 300)}
	for size := range len(keptRules) + 1 {
		rules := slices.Clone(keptRules)
		for s := -1; s <= 256; s++ {
			impl.OneStep(rules[:size], s)
		}
		for n := -1; n < 9; n++ {
			impl.IsDirect(n, rules[:size])
		}
		if !sameRules(rules, keptRules) {
			t.Errorf("a list of %d rules is changed to %v", size, rules)
		}
	}
}

// Promise 31 for chapter 12.
func TestDirectBasesAreNewEachTime(t *testing.T) {
	c := context(4, 3, 2, 6, 12)
	want := directBySearch(c)
	check := func() {
		t.Helper()
		if !slices.Equal(impl.ProperPremises(c), ifsOf(want)) || !sameRules(impl.DirectBase(c), want) || !sameContext(c, context(4, 3, 2, 6, 12)) {
			t.Error("writing into a result changes another one or the context")
		}
	}
	premises, base := impl.ProperPremises(c), impl.DirectBase(c)
	overwrite(impl.ProperPremises(c), -1)
	check()
	overwrite(impl.DirectBase(c), rule(-1, 99))
	check()
	c.Rows[0] = 15
	if !slices.Equal(premises, ifsOf(want)) || !sameRules(base, want) {
		t.Error("writing into another result or into the rows changes a result")
	}
}

// Promise 31 for chapter 12: no numbers are too great.
func TestDirectFunctionsAreTotal(t *testing.T) {
	numbers := []int{math.MinInt, math.MinInt + 1, -1 << 32, -256, -1, 0, 1, 63, 255, 256, 1 << 32, 1<<63 - 2, math.MaxInt}
	valid := func(s int) bool { return s >= 0 && s <= 255 }
	for _, from := range numbers {
		for _, to := range numbers {
			rules := []impl.Rule{rule(from, to)}
			ok := valid(from) && valid(to)
			for _, k := range numbers {
				want := k
				if ok && valid(k) {
					want = oneStepBySearch(rules, k)
				}
				if got := impl.OneStep(rules, k); got != want {
					t.Errorf("OneStep(%v, %d) = %d, want %d", rules, k, got, want)
				}
				if impl.IsDirect(k, rules) && !(ok && k >= 0 && k <= 6) {
					t.Errorf("IsDirect(%d, %v) = true", k, rules)
				}
			}
			c := context(from, to)
			if n := len(impl.DirectBase(c)) + len(impl.ProperPremises(c)); n != 0 && !(from == 1 && to == 1) {
				t.Errorf("DirectBase or ProperPremises of %v has %d elements", c, n)
			}
		}
	}
}
