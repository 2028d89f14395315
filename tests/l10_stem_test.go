package tests

import (
	"math/bits"
	"slices"
	"testing"

	"loop.example/g00596/impl"
)

func closureBySearch(c impl.Context, s int) int {
	return intentBySearch(c, extentBySearch(c, s))
}

// closedBySearch returns the closed sets in ascending order.
func closedBySearch(c impl.Context) []int {
	var closed []int
	for s := range 1 << c.Attributes {
		if closureBySearch(c, s) == s {
			closed = append(closed, s)
		}
	}
	return closed
}

// pseudoSets goes from the smaller to the larger sets of n elements, as the definition asks for the proper subsets.
func pseudoSets(n int, closureOf func(s int) int) []int {
	var found []int
	for size := range n + 1 {
		for s := range 1 << n {
			if sizeOf(s) != size || closureOf(s) == s {
				continue
			}
			missing := func(p int) bool { return hasAllOf(s, p) && !hasAllOf(s, closureOf(p)) }
			if !slices.ContainsFunc(found, missing) {
				found = append(found, s)
			}
		}
	}
	return inLecticOrder(found)
}

func pseudoBySearch(c impl.Context) []int {
	return pseudoSets(c.Attributes, func(s int) int { return closureBySearch(c, s) })
}

func inLecticOrder(list []int) []int {
	var sorted []int
	for _, s := range list {
		place := 0
		for place < len(sorted) && comesBefore(sorted[place], s) {
			place++
		}
		sorted = slices.Insert(sorted, place, s)
	}
	return sorted
}

// rulesToClosures returns the rule to its closure for each of the sets.
func rulesToClosures(sets []int, closureOf func(s int) int) []impl.Rule {
	var rules []impl.Rule
	for _, s := range sets {
		rules = append(rules, rule(s, closureOf(s)))
	}
	return rules
}

func closingRules(c impl.Context, sets []int) []impl.Rule {
	return rulesToClosures(sets, func(s int) int { return closureBySearch(c, s) })
}

// isBaseBySearch asks that exactly the closed sets respect the rules.
func isBaseBySearch(c impl.Context, rules []impl.Rule) bool {
	for _, r := range rules {
		if max(r.If, r.Then) >= 1<<c.Attributes || min(r.If, r.Then) < 0 {
			return false
		}
	}
	return len(rules) <= 40 && slices.Equal(modelsBySearch(c.Attributes, rules), closedBySearch(c))
}

// checkBase compares what the program says of a list of rules with a search.
func checkBase(t *testing.T, c impl.Context, rules []impl.Rule) {
	t.Helper()
	want := isBaseBySearch(c, rules)
	if got := impl.IsBase(c, rules); got != want {
		t.Fatalf("IsBase(%v, %s) = %v", c, textOfRules(rules), got)
	}
	if got := impl.IsShortest(c, rules); got != (want && len(rules) == len(pseudoBySearch(c))) {
		t.Fatalf("IsShortest(%v, %s) = %v", c, textOfRules(rules), got)
	}
}

func rejectsBase(t *testing.T, c impl.Context, rules []impl.Rule) {
	t.Helper()
	if impl.IsBase(c, rules) || impl.IsShortest(c, rules) {
		t.Fatalf("IsBase(%v, %v) = %v, IsShortest = %v, want false", c, rules, impl.IsBase(c, rules), impl.IsShortest(c, rules))
	}
}

// familyContexts returns a context for each set of rows with n attributes, at most 3, apart from the full row, which closes nothing.
func familyContexts(n int) []impl.Context {
	var list []impl.Context
	sets := 1<<n - 1
	for family := range 1 << sets {
		c := context(n)
		for row := range sets {
			if membersOf(family)[row] {
				c.Rows = append(c.Rows, row)
			}
		}
		list = append(list, c)
	}
	return list
}

func stemContexts() []impl.Context {
	return append(derivationContexts(), familyContexts(3)...)
}

func TestStemBasesOfContexts(t *testing.T) {
	cases := []struct {
		context, base string
		rules         int
	}{
		{"4 ab,b,bc,cd", "d>cd bcd>abcd a>ab abc>abcd", 9},
		{"3 a,ab,abc", "->a ac>abc", 5},
		{"2 a,-", "b>ab", 1},
		{"2 ab,a,-", "b>ab", 1},
		{"3 abc,a,b", "c>abc ab>abc", 4},
		{"3 ab,c", "b>ab a>ab", 4},
		{"3 ab,-", "c>abc b>ab a>ab", 5},
		// The empty set is pseudo-closed.
		{"1 a", "->a", 1},
		{"2 a", "->a", 2},
		{"2 b", "->b", 2},
		{"2 ab,ab", "->ab", 3},
		{"2 a,ab", "->a", 2},
		{"4 d,ad,bcd", "->d cd>bcd bd>bcd", 12},
		// Without objects.
		{"0 none", "none", 0},
		{"1 none", "->a", 1},
		{"2 none", "->ab", 3},
		{"6 none", "->abcdef", 63},
		// Without attributes.
		{"0 -", "none", 0},
		{"0 -,-,-", "none", 0},
		// Every set is closed.
		{"1 -", "none", 0},
		{"2 a,b", "none", 0},
		{"3 ab,bc,ac", "none", 0},
		{"4 abc,abd,acd,bcd", "none", 0},
		{"6 bcdef,acdef,abdef,abcef,abcdf,abcde,abcdef,-", "none", 0},
		// Only the empty and the full set are closed.
		{"2 -", "b>ab a>ab", 2},
		{"6 -", "f>abcdef e>abcdef d>abcdef c>abcdef b>abcdef a>abcdef", 62},
	}
	for _, k := range cases {
		c := parsedContext(t, k.context)
		base := impl.StemBase(c)
		if textOfRules(base) != k.base {
			t.Errorf("StemBase(%s) = %s, want %s", k.context, textOfRules(base), k.base)
		}
		if got, want := impl.PseudoIntents(c), ifsOf(rulesOf(k.base)); !slices.Equal(got, want) {
			t.Errorf("PseudoIntents(%s) = %v, want %v", k.context, got, want)
		}
		if got := impl.CountRules(c); got != k.rules {
			t.Errorf("CountRules(%s) = %d, want %d", k.context, got, k.rules)
		}
		if !impl.IsBase(c, rulesOf(k.base)) || !impl.IsShortest(c, rulesOf(k.base)) {
			t.Errorf("IsBase or IsShortest of %s and %s is false", k.context, k.base)
		}
	}
}

func TestStemBasesByTheirDefinition(t *testing.T) {
	for _, c := range stemContexts() {
		sets := pseudoBySearch(c)
		if got := impl.PseudoIntents(c); !slices.Equal(got, sets) {
			t.Fatalf("PseudoIntents(%v) = %v, want %v", c, got, sets)
		}
		if got, want := impl.StemBase(c), closingRules(c, sets); !sameRules(got, want) {
			t.Fatalf("StemBase(%v) = %s, want %s", c, textOfRules(got), textOfRules(want))
		}
		if got, want := impl.CountRules(c), 1<<c.Attributes-len(closedBySearch(c)); got != want {
			t.Fatalf("CountRules(%v) = %d, want %d", c, got, want)
		}
	}
}

// Promise 10: all rules that hold follow, as every set has the same closure.
func TestClosuresByTheStemBase(t *testing.T) {
	for _, c := range stemContexts() {
		base := impl.StemBase(c)
		for s := range 1 << c.Attributes {
			want := closureBySearch(c, s)
			if got := impl.ClosedBy(base, s); got != want || got != impl.ClosureOf(c, s) {
				t.Fatalf("ClosedBy(%s, %d) = %d, want %d as in %v", textOfRules(base), s, got, want, c)
			}
		}
		if !isBaseBySearch(c, base) {
			t.Fatalf("StemBase(%v) = %s says something else", c, textOfRules(base))
		}
		checkBase(t, c, base)
	}
}

// Promise 10: a rule holds exactly if it follows.
func TestRulesThatHoldFollowFromTheStemBase(t *testing.T) {
	for _, c := range stemContexts() {
		base := impl.StemBase(c)
		all := rulesOver(c.Attributes)
		for i := 0; i < len(all); i += 1 + len(all)/150 {
			if got, want := impl.Follows(base, all[i]), impl.HoldsIn(c, all[i]); got != want {
				t.Fatalf("Follows(%s, %s) = %v, and HoldsIn(%v) = %v", textOfRules(base), textOfRule(all[i]), got, c, want)
			}
		}
	}
}

// Promise 10: none of the rules can be left out.
func TestNoRuleOfTheStemBaseFollowsFromTheOthers(t *testing.T) {
	for _, c := range stemContexts() {
		base := impl.StemBase(c)
		for k, r := range base {
			others := slices.Delete(slices.Clone(base), k, k+1)
			if commonOfModels(modelsBySearch(c.Attributes, others), r.If) == r.Then || impl.Follows(others, r) {
				t.Fatalf("%s follows from the others in StemBase(%v) = %s", textOfRule(r), c, textOfRules(base))
			}
			rejectsBase(t, c, others)
		}
	}
}

// Promise 10, for all lists that are short enough to be tried.
func TestAcceptedListsAreNoShorterThanTheStemBase(t *testing.T) {
	for n := range 4 {
		lists := shortRuleLists(n)
		for _, c := range familyContexts(n) {
			closed, size := closedBySearch(c), len(pseudoBySearch(c))
			for _, rules := range lists {
				want := slices.Equal(modelsBySearch(n, rules), closed)
				if impl.IsBase(c, rules) != want || impl.IsShortest(c, rules) != (want && len(rules) == size) {
					t.Fatalf("IsBase or IsShortest of %v and %s is wrong", c, textOfRules(rules))
				}
				if want && len(rules) < len(impl.StemBase(c)) {
					t.Fatalf("%s is shorter than StemBase(%v)", textOfRules(rules), c)
				}
			}
		}
	}
}

// breaksOf tells for each set of n elements, as the bits of a number, which sets do not respect the rule from it to its closure.
func breaksOf(n int, closureOf func(s int) int) []uint64 {
	var breaks []uint64
	for s := range 1 << n {
		closing := rule(s, closureOf(s))
		var broken uint64
		for other := range 1 << n {
			if !respectsBySearch(closing, other) {
				broken |= 1 << other
			}
		}
		breaks = append(breaks, broken)
	}
	return breaks
}

// canBreakAll reports whether that many rules, or fewer, are enough for all of the sets that are left.
func canBreakAll(breaks []uint64, left uint64, rules int) bool {
	if left == 0 || rules == 0 {
		return left == 0
	}
	first := bits.TrailingZeros64(left)
	for _, broken := range breaks {
		if broken>>first&1 == 1 && canBreakAll(breaks, left&^broken, rules-1) {
			return true
		}
	}
	return false
}

// isShortestSize reports whether lists that say as much as the closures of the sets of n elements need that many rules. A rule
// that holds says no more than the one from its If to the closure, so that only these have to be tried: a list of them says as
// much exactly if it breaks all sets that are not closed.
func isShortestSize(n int, closureOf func(s int) int, size int) bool {
	var left uint64
	breaks := breaksOf(n, closureOf)
	for _, broken := range breaks {
		left |= broken
	}
	return canBreakAll(breaks, left, size) && (size == 0 || !canBreakAll(breaks, left, size-1))
}

// Promise 10.
func TestNoListIsShorterThanTheStemBase(t *testing.T) {
	for _, c := range stemContexts() {
		size := len(impl.StemBase(c))
		if !isShortestSize(c.Attributes, func(s int) int { return closureBySearch(c, s) }, size) {
			t.Fatalf("the shortest list for %v does not have the %d rules of StemBase", c, size)
		}
	}
}

// rewordedBases returns lists that say what the rules say in other ways.
func rewordedBases(rules []impl.Rule) [][]impl.Rule {
	reversed := slices.Clone(rules)
	slices.Reverse(reversed)
	var short, split, doubled []impl.Rule
	for _, r := range rules {
		short = append(short, rule(r.If, r.Then&^r.If))
		doubled = append(doubled, r, r)
		for e, in := range membersOf(r.Then) {
			if in {
				split = append(split, rule(r.If, 1<<e))
			}
		}
	}
	return [][]impl.Rule{reversed, short, split, doubled, append(slices.Clone(rules), rule(0, 0)), append(slices.Clone(short), short...)}
}

func TestBasesInOtherWords(t *testing.T) {
	for _, c := range stemContexts() {
		base := closingRules(c, pseudoBySearch(c))
		for k, rules := range rewordedBases(base) {
			if got, want := impl.IsBase(c, rules), len(rules) <= 40; got != want {
				t.Fatalf("IsBase(%v, %s) = %v, want %v", c, textOfRules(rules), got, want)
			}
			if k < 2 && !impl.IsShortest(c, rules) {
				t.Fatalf("IsShortest(%v, %s) = false", c, textOfRules(rules))
			}
			checkBase(t, c, rules)
		}
	}
}

// Changed rules say less or more, or the same.
func TestChangedBases(t *testing.T) {
	for i, c := range stemContexts() {
		base := closingRules(c, pseudoBySearch(c))
		full := 1<<c.Attributes - 1
		for k, r := range base {
			e := 1 << ((i + k) % c.Attributes)
			for _, other := range []impl.Rule{rule(r.Then, r.If), rule(r.If, 0), rule(r.If&^e, r.Then), rule((r.If|e)&full, r.Then), rule(r.If, r.Then&^e), rule(r.If, r.Then|e)} {
				changed := slices.Clone(base)
				changed[k] = other
				checkBase(t, c, changed)
			}
		}
	}
}

func TestBasesOfAContext(t *testing.T) {
	cases := []struct {
		context, rules string
		base, shortest bool
	}{
		{"4 ab,b,bc,cd", "d>cd bcd>abcd a>ab abc>abcd", true, true},
		{"4 ab,b,bc,cd", "a>b d>c abc>d bcd>a", true, true},
		{"4 ab,b,bc,cd", "bd>a ac>d a>b d>c", true, true},
		{"4 ab,b,bc,cd", "a>b d>c abc>d", false, false},
		{"4 ab,b,bc,cd", "a>b d>c bcd>a", false, false},
		{"4 ab,b,bc,cd", "none", false, false},
		// More rules than needed.
		{"4 ab,b,bc,cd", "a>b d>c abc>d bcd>a a>b", true, false},
		{"4 ab,b,bc,cd", "a>b d>c abc>d bcd>a ad>bc", true, false},
		{"4 ab,b,bc,cd", "->- a>b d>c abc>d bcd>a abcd>-", true, false},
		// Rules that do not hold.
		{"4 ab,b,bc,cd", "a>b d>c abc>d bcd>a b>a", false, false},
		{"4 ab,b,bc,cd", "->b a>b d>c abc>d bcd>a", false, false},
		{"4 ab,b,bc,cd", "->abcd", false, false},
		{"4 ab,b,bc,cd", "a>b d>b abc>d bcd>a", false, false},
		// Rules of attributes that the context does not have.
		{"4 ab,b,bc,cd", "a>b d>c abc>d bcd>a e>-", false, false},
		{"4 ab,b,bc,cd", "a>b d>c abc>d bcd>a e>e", false, false},
		{"4 ab,b,bc,cd", "a>b d>c abc>de bcd>a", false, false},
		{"0 none", "a>-", false, false},
		// The empty set is pseudo-closed.
		{"3 a,ab,abc", "->a c>b", true, true},
		{"3 a,ab,abc", "->a ac>b", true, true},
		{"3 a,ab,abc", "->a b>a c>ab", true, false},
		{"3 a,ab,abc", "b>a c>ab", false, false},
		{"2 none", "->ab", true, true},
		{"2 none", "->a a>b", true, false},
		{"2 none", "->a b>a", false, false},
		// Every set is closed.
		{"3 ab,bc,ac", "none", true, true},
		{"3 ab,bc,ac", "->-", true, false},
		{"3 ab,bc,ac", "abc>a bc>c", true, false},
		{"3 ab,bc,ac", "a>b", false, false},
		{"0 none", "none", true, true},
		{"0 -,-", "none", true, true},
		{"0 -,-", "->- ->-", true, false},
		{"1 a", "none", false, false},
		{"1 -", "none", true, true},
	}
	for _, k := range cases {
		c, rules := parsedContext(t, k.context), rulesOf(k.rules)
		if got := impl.IsBase(c, rules); got != k.base {
			t.Errorf("IsBase(%s, %s) = %v", k.context, k.rules, got)
		}
		if got := impl.IsShortest(c, rules); got != k.shortest {
			t.Errorf("IsShortest(%s, %s) = %v", k.context, k.rules, got)
		}
	}
}

func TestTheEmptyListOfRules(t *testing.T) {
	for _, c := range stemContexts() {
		want := len(closedBySearch(c)) == 1<<c.Attributes
		for _, rules := range [][]impl.Rule{nil, {}} {
			if impl.IsBase(c, rules) != want || impl.IsShortest(c, rules) != want {
				t.Errorf("IsBase or IsShortest of %v and no rules is not %v", c, want)
			}
		}
		if got := len(impl.StemBase(c)) == 0 && len(impl.PseudoIntents(c)) == 0 && impl.CountRules(c) == 0; got != want {
			t.Errorf("that every set of %v is closed is told as %v", c, got)
		}
	}
}

func TestStemBasesWithoutObjectsOrAttributes(t *testing.T) {
	for n := 1; n < 7; n++ {
		full := 1<<n - 1
		for _, c := range []impl.Context{context(n), {Attributes: n, Rows: []int{}}, context(n, full), context(n, full, full)} {
			if got := impl.StemBase(c); !sameRules(got, []impl.Rule{rule(0, full)}) {
				t.Errorf("StemBase(%v) = %v", c, got)
			}
			if got := impl.PseudoIntents(c); !slices.Equal(got, []int{0}) {
				t.Errorf("PseudoIntents(%v) = %v", c, got)
			}
			if got := impl.CountRules(c); got != full {
				t.Errorf("CountRules(%v) = %d, want %d", c, got, full)
			}
			for s := range full + 1 {
				checkBase(t, c, []impl.Rule{rule(0, s)})
				checkBase(t, c, []impl.Rule{rule(s, full)})
				checkBase(t, c, []impl.Rule{rule(0, s), rule(s, full)})
			}
		}
	}
	for objects := range 9 {
		c := context(0, make([]int, objects)...)
		if got := impl.StemBase(c); len(got) != 0 {
			t.Errorf("StemBase(%v) = %v, want none", c, got)
		}
		if got := impl.PseudoIntents(c); len(got) != 0 {
			t.Errorf("PseudoIntents(%v) = %v, want none", c, got)
		}
		if got := impl.CountRules(c); got != 0 {
			t.Errorf("CountRules(%v) = %d, want 0", c, got)
		}
		checkBase(t, c, nil)
		checkBase(t, c, []impl.Rule{rule(0, 0)})
		rejectsBase(t, c, []impl.Rule{rule(0, 1)})
	}
}

// A base may have as many rules as AreRules accepts, but no more.
func TestBasesUpToMaxRules(t *testing.T) {
	for _, c := range stemContexts() {
		base := impl.StemBase(c)
		checkBase(t, c, closingRules(c, setsOver(c.Attributes)))
		for _, filler := range append(base, rule(0, 0)) {
			for _, size := range []int{len(base) + 1, 39, 40, 41, 80} {
				rules := append(slices.Clone(base), slices.Repeat([]impl.Rule{filler}, size-len(base))...)
				if impl.IsBase(c, rules) != (size <= 40) || impl.IsShortest(c, rules) {
					t.Fatalf("IsBase or IsShortest of %v and %d rules is wrong", c, size)
				}
			}
			if c.Attributes > 4 {
				break
			}
		}
	}
}

func TestStemBasesWithoutAContext(t *testing.T) {
	for _, c := range append(noContexts(), context(2, 3, 3, 4), context(2, 3, -1), context(7, 127), context(-1)) {
		if got := impl.StemBase(c); len(got) != 0 {
			t.Errorf("StemBase(%v) = %v, want none", c, got)
		}
		if got := impl.PseudoIntents(c); len(got) != 0 {
			t.Errorf("PseudoIntents(%v) = %v, want none", c, got)
		}
		if got := impl.CountRules(c); got != -1 {
			t.Errorf("CountRules(%v) = %d, want -1", c, got)
		}
		for _, rules := range [][]impl.Rule{nil, {}, {rule(0, 0)}, {rule(0, 1)}, {rule(0, 3)}, {rule(0, 63)}, {rule(1, 2), rule(2, 1)}} {
			rejectsBase(t, c, rules)
		}
	}
}

// Rules that add nothing to a base spoil it all the same if they are no rules of the attributes of the context.
func TestBasesWithWhatIsNoRule(t *testing.T) {
	for _, c := range sampleContexts() {
		base := impl.StemBase(c)
		beyond := 1 << c.Attributes
		wrong := append(wrongRules(), rule(beyond, 0), rule(0, beyond), rule(beyond, beyond), rule(2*beyond-1, 0), rule(beyond-1, beyond), rule(255, 255))
		for _, r := range wrong {
			rejectsBase(t, c, []impl.Rule{r})
			rejectsBase(t, c, append(slices.Clone(base), r))
			rejectsBase(t, c, append([]impl.Rule{r}, base...))
		}
	}
}

func TestBasesWithRulesThatDoNotHold(t *testing.T) {
	for _, c := range stemContexts() {
		base := impl.StemBase(c)
		all := rulesOver(c.Attributes)
		for i := 0; i < len(all); i += 1 + len(all)/100 {
			if hasAllOf(closureBySearch(c, all[i].If), all[i].Then) {
				continue
			}
			rejectsBase(t, c, all[i:i+1])
			rejectsBase(t, c, append(slices.Clone(base), all[i]))
			rejectsBase(t, c, append([]impl.Rule{all[i]}, base...))
		}
	}
}

// Promise 31 for chapter 10; what stands behind the rows and the rules is no part of them.
func TestStemFunctionsKeepTheirArguments(t *testing.T) {
	keptRows := []int{3, 2, 6, 12, 1, 9, 2, 15, 0, -1}
	keptRules := []impl.Rule{rule(8, 12), rule(14, 15), rule(1, 3), rule(7, 15), rule(0, 0), rule(2, 1), rule(-1, 300)}
	for size := range len(keptRows) + 1 {
		rows := slices.Clone(keptRows)
		c := context(4, rows[:size]...)
		impl.PseudoIntents(c)
		impl.StemBase(c)
		impl.CountRules(c)
		for length := range len(keptRules) + 1 {
			rules := slices.Clone(keptRules)
			impl.IsBase(c, rules[:length])
			impl.IsShortest(c, rules[:length])
			if !sameRules(rules, keptRules) {
				t.Errorf("a list of %d rules is changed to %v", length, rules)
			}
		}
		if !slices.Equal(rows, keptRows) {
			t.Errorf("the rows of a context of %d objects are changed to %v", size, rows)
		}
	}
}

// Promise 31 for chapter 10.
func TestStemBasesAreNewEachTime(t *testing.T) {
	c := context(4, 3, 2, 6, 12)
	wantSets, wantRules := pseudoBySearch(c), closingRules(c, pseudoBySearch(c))
	check := func() {
		t.Helper()
		if !slices.Equal(impl.PseudoIntents(c), wantSets) || !sameRules(impl.StemBase(c), wantRules) || !impl.IsShortest(c, wantRules) {
			t.Error("writing into a result changes another one")
		}
	}
	firstSets, firstRules := impl.PseudoIntents(c), impl.StemBase(c)
	secondSets, secondRules := impl.PseudoIntents(c), impl.StemBase(c)
	for i := range firstSets[:cap(firstSets)] {
		firstSets[:cap(firstSets)][i] = -1
	}
	check()
	for i := range firstRules[:cap(firstRules)] {
		firstRules[:cap(firstRules)][i] = rule(-1, 99)
	}
	check()
	c.Rows[0] = 15
	if !slices.Equal(secondSets, wantSets) || !sameRules(secondRules, wantRules) {
		t.Error("writing into another result or into the rows changes a result")
	}
}
