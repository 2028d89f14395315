package tests

import (
	"math"
	"slices"
	"strings"
	"testing"

	"loop.example/g00596/impl"
)

// stepsOf reads steps of one digit for the rule, a colon and the letters of the set behind the step; none is the text of no steps.
func stepsOf(text string) []impl.Step {
	var steps []impl.Step
	if text != "none" {
		for _, part := range strings.Split(text, " ") {
			k, now, _ := strings.Cut(part, ":")
			steps = append(steps, impl.Step{Rule: int(k[0] - '0'), Now: setOf(now)})
		}
	}
	return steps
}

func withoutPlace(rules []impl.Rule, k int) []impl.Rule {
	return slices.Delete(slices.Clone(rules), k, k+1)
}

// followsBySearch asks the models of n elements; all rules have to be ones of these.
func followsBySearch(n int, rules []impl.Rule, r impl.Rule) bool {
	return hasAllOf(commonOfModels(modelsBySearch(n, rules), r.If), r.Then)
}

// sizedRules is a list of rules of n elements.
type sizedRules struct {
	n     int
	rules []impl.Rule
}

// sizedLists returns lists of rules of at most that many elements.
func sizedLists(most int) []sizedRules {
	var lists []sizedRules
	for n := range 3 {
		for _, rules := range shortRuleLists(n) {
			lists = append(lists, sizedRules{n, rules})
		}
	}
	for n := range most + 1 {
		for _, rules := range sampleRules(n) {
			lists = append(lists, sizedRules{n, rules})
		}
	}
	for _, text := range []string{"a>b b>c c>d d>e e>f", "e>f d>e c>d b>c a>b", "abcde>f abcd>e abc>d ab>c a>b ->a", "ab>cdef ac>bdef bc>adef a>d b>e c>f", "a>b b>a c>d d>c ac>ef bd>ef"} {
		lists = append(lists, sizedRules{6, rulesOf(text)})
	}
	return lists
}

// fewRulesOver returns all rules between sets of n elements, or some of them.
func fewRulesOver(n, about int) []impl.Rule {
	var rules []impl.Rule
	all := rulesOver(n)
	for i := 0; i < len(all); i += 1 + len(all)/about {
		rules = append(rules, all[i])
	}
	return rules
}

func TestAreEquivalent(t *testing.T) {
	cases := []struct {
		a, b string
		want bool
	}{
		{"a>bc", "a>b a>c", true},
		{"a>b", "b>a", false},
		{"a>b b>c", "a>b b>c a>c", true},
		{"a>b b>c", "a>c", false},
		{"a>b b>a", "a>ab b>ab", true},
		{"a>b b>c c>a", "c>b b>a a>c", true},
		{"a>b ab>c", "a>bc", true},
		{"a>b ab>c", "a>b a>c", true},
		{"a>b ab>c", "ab>c", false},
		{"ab>c", "a>c", false},
		{"a>c", "ab>c", false},
		// Rules that follow from nothing.
		{"none", "none", true},
		{"none", "->-", true},
		{"none", "a>a ab>b h>-", true},
		{"a>a", "bc>b", true},
		{"a>b c>c", "d>- a>b", true},
		{"none", "a>b", false},
		{"a>a", "a>b", false},
		// Equal rules twice.
		{"a>b", "a>b a>b", true},
		{"a>b a>b a>b", "a>b a>ab", true},
		// Rules with empty sets.
		{"->a", "->a b>a", true},
		{"->a", "b>a", false},
		{"->a a>b", "->ab", true},
		{"->-", "->a", false},
		{"a>-", "->a", false},
		{"->abcdefgh", "->abcdefgh a>h", true},
		// All elements count, also those that no context has as attributes.
		{"g>h", "gh>h", false},
		{"g>h", "g>gh", true},
		{"abcdefg>h", "abcdef>h", false},
	}
	for _, c := range cases {
		a, b := rulesOf(c.a), rulesOf(c.b)
		if impl.AreEquivalent(a, b) != c.want || impl.AreEquivalent(b, a) != c.want {
			t.Errorf("AreEquivalent(%s, %s) is not %v in both orders", c.a, c.b, c.want)
		}
		if !impl.AreEquivalent(a, a) || !impl.AreEquivalent(b, b) {
			t.Errorf("AreEquivalent of %s or %s and itself is false", c.a, c.b)
		}
	}
}

// Lists say the same exactly if the same sets respect them.
func TestEquivalentListsHaveTheSameModels(t *testing.T) {
	check := func(n int, lists [][]impl.Rule) {
		t.Helper()
		var models [][]int
		for _, rules := range lists {
			models = append(models, modelsBySearch(n, rules))
		}
		for i, a := range lists {
			for k, b := range lists {
				if got, want := impl.AreEquivalent(a, b), slices.Equal(models[i], models[k]); got != want {
					t.Fatalf("AreEquivalent(%s, %s) = %v", textOfRules(a), textOfRules(b), got)
				}
			}
		}
	}
	for n := range 3 {
		check(n, shortRuleLists(n))
	}
	for n := range 9 {
		check(n, sampleRules(n))
	}
}

func TestAreEquivalentRejects(t *testing.T) {
	for _, r := range wrongRules() {
		for _, wrong := range append(listsWith(r), []impl.Rule{rule(0, 255), r}) {
			for _, rules := range [][]impl.Rule{nil, {}, {rule(0, 0)}, {rule(1, 2)}, {rule(0, 255)}, withoutPlace(wrong, len(wrong)-1), wrong} {
				if impl.AreEquivalent(wrong, rules) || impl.AreEquivalent(rules, wrong) {
					t.Fatalf("AreEquivalent of %v and %v, in one of the orders, is true", wrong, rules)
				}
			}
		}
	}
}

func TestIsRedundant(t *testing.T) {
	cases := []struct {
		rules     string
		redundant string
	}{
		{"a>b b>c a>c", "001"},
		{"a>c a>b b>c", "100"},
		{"a>b b>c c>a a>c c>b b>a", "111111"},
		{"a>b bc>d", "00"},
		{"a>b a>bc", "10"},
		{"a>bc a>b", "01"},
		{"a>b ab>b", "01"},
		{"ab>c a>c", "10"},
		// Equal rules twice: each follows from the other one.
		{"a>b a>b", "11"},
		{"a>b b>c a>b", "101"},
		{"a>b a>ab", "11"},
		// Rules that follow from nothing, and rules with empty sets.
		{"a>a", "1"},
		{"->-", "1"},
		{"a>-", "1"},
		{"abcdefgh>abcdefgh", "1"},
		{"->a", "0"},
		{"a>b", "0"},
		{"->a b>a", "01"},
		{"->a ->b ->ab", "111"},
		{"->a a>b ->b", "011"},
		{"none", ""},
	}
	for _, c := range cases {
		rules := rulesOf(c.rules)
		for k := -3; k < len(rules)+3; k++ {
			want := k >= 0 && k < len(rules) && c.redundant[k] == '1'
			if got := impl.IsRedundant(rules, k); got != want {
				t.Errorf("IsRedundant(%s, %d) = %v", c.rules, k, got)
			}
		}
	}
}

func TestRedundantRulesFollowFromTheOthers(t *testing.T) {
	for _, list := range sizedLists(8) {
		for k, r := range list.rules {
			others := withoutPlace(list.rules, k)
			got := impl.IsRedundant(list.rules, k)
			if got != followsBySearch(list.n, others, r) || got != impl.Follows(others, r) {
				t.Fatalf("IsRedundant(%s, %d) = %v", textOfRules(list.rules), k, got)
			}
		}
	}
}

func TestIsRedundantRejects(t *testing.T) {
	for _, rules := range [][]impl.Rule{nil, {}, {rule(0, 0)}, {rule(1, 1), rule(1, 1)}, {rule(0, 255), rule(1, 1), rule(0, 255)}} {
		for _, k := range []int{-1, -2, -3, -64, len(rules), len(rules) + 1, len(rules) + 2, 256, 1 << 32, 1<<32 + 1, math.MaxInt, math.MinInt, math.MinInt + 1} {
			if impl.IsRedundant(rules, k) {
				t.Errorf("IsRedundant(%v, %d) = true", rules, k)
			}
		}
	}
	for _, r := range wrongRules() {
		for _, rules := range append(listsWith(r), []impl.Rule{rule(1, 1), r, rule(1, 1)}, []impl.Rule{rule(0, 255), rule(0, 255), r}) {
			for k := range rules {
				if impl.IsRedundant(rules, k) {
					t.Fatalf("IsRedundant(%v, %d) = true", rules, k)
				}
			}
		}
	}
}

func TestMinimalRules(t *testing.T) {
	cases := []struct{ rules, want string }{
		{"a>b b>c a>c ab>c", "a>b b>c"},
		{"a>c ab>c a>b b>c", "a>b b>c"},
		{"a>b b>c", "a>b b>c"},
		{"b>c a>b", "b>c a>b"},
		// The earlier one of two rules goes first, even if it says the same in fewer letters.
		{"a>b a>ab", "a>ab"},
		{"a>ab a>b", "a>b"},
		{"a>b a>c a>bc", "a>bc"},
		{"a>bc a>b a>c", "a>b a>c"},
		{"a>b b>c c>a a>c c>b b>a", "a>c c>b b>a"},
		{"a>c c>b b>a a>b b>c c>a", "a>b b>c c>a"},
		{"->ab ->a a>b", "->a a>b"},
		{"->a a>b ->ab", "->ab"},
		// Equal rules twice: the last one stays.
		{"a>b a>b", "a>b"},
		{"a>b c>d a>b", "c>d a>b"},
		{"a>b a>b c>d a>b c>d", "a>b c>d"},
		// Rules that follow from nothing.
		{"none", "none"},
		{"->-", "none"},
		{"a>a", "none"},
		{"a>- ab>a ->- abcdefgh>h", "none"},
		{"a>a a>b ->- b>b", "a>b"},
		// Rules with empty sets.
		{"->a", "->a"},
		{"b>a ->a", "->a"},
		{"->a b>a", "->a"},
		{"->abcdefgh a>h", "->abcdefgh"},
	}
	for _, c := range cases {
		if got := impl.MinimalRules(rulesOf(c.rules)); textOfRules(got) != c.want {
			t.Errorf("MinimalRules(%s) = %s, want %s", c.rules, textOfRules(got), c.want)
		}
	}
}

// minimalBySearch removes rules one after the other as the chapter says.
func minimalBySearch(n int, rules []impl.Rule) []impl.Rule {
	kept := slices.Clone(rules)
	place := 0
	for _, r := range rules {
		if others := withoutPlace(kept, place); followsBySearch(n, others, r) {
			kept = others
		} else {
			place++
		}
	}
	return kept
}

// Promise 11 depends on lists that say the same: nothing is lost, and nothing that is left can be spared.
func TestMinimalRulesByTheirDefinition(t *testing.T) {
	for _, list := range sizedLists(8) {
		got, want := impl.MinimalRules(list.rules), minimalBySearch(list.n, list.rules)
		if !sameRules(got, want) {
			t.Fatalf("MinimalRules(%s) = %s, want %s", textOfRules(list.rules), textOfRules(got), textOfRules(want))
		}
		if !slices.Equal(modelsBySearch(list.n, got), modelsBySearch(list.n, list.rules)) || !impl.AreEquivalent(list.rules, got) {
			t.Fatalf("MinimalRules(%s) = %s says something else", textOfRules(list.rules), textOfRules(got))
		}
		for k, r := range got {
			if followsBySearch(list.n, withoutPlace(got, k), r) || impl.IsRedundant(got, k) {
				t.Fatalf("%s can be left out in MinimalRules(%s) = %s", textOfRule(r), textOfRules(list.rules), textOfRules(got))
			}
		}
		if again := impl.MinimalRules(got); !sameRules(again, got) {
			t.Fatalf("MinimalRules(%s) = %s", textOfRules(got), textOfRules(again))
		}
	}
}

func TestMinimalRulesRejects(t *testing.T) {
	for _, r := range wrongRules() {
		for _, rules := range append(listsWith(r), []impl.Rule{rule(0, 255), r}, []impl.Rule{rule(1, 1), rule(1, 1), r}) {
			if got := impl.MinimalRules(rules); len(got) != 0 {
				t.Fatalf("MinimalRules(%v) = %v, want none", rules, got)
			}
		}
	}
}

func TestShortRules(t *testing.T) {
	cases := []struct {
		n           int
		rules, want string
	}{
		{3, "a>b a>c b>c", "b>bc a>abc"},
		{3, "a>b b>c", "b>bc a>abc"},
		{3, "a>b b>c a>c ab>c", "b>bc a>abc"},
		{2, "a>b", "a>ab"},
		{3, "a>b", "a>ab"},
		{2, "a>b b>a", "b>ab a>ab"},
		{3, "a>b b>c c>a", "c>abc b>abc a>abc"},
		{4, "a>b d>c abc>d bcd>a", "d>cd bcd>abcd a>ab abc>abcd"},
		{4, "a>bc", "a>abc"},
		{4, "a>b a>c", "a>abc"},
		{3, "ab>c ac>b", "ac>abc ab>abc"},
		{6, "ab>c abd>e", "ab>abc abcd>abcde"},
		// Rules that follow from nothing, and equal rules twice.
		{0, "none", "none"},
		{0, "->- ->-", "none"},
		{6, "none", "none"},
		{6, "->- a>a f>- abcdef>f", "none"},
		{3, "a>b a>b a>a a>b", "a>ab"},
		// Rules with empty sets: what follows from the empty set stands in all others.
		{1, "->a", "->a"},
		{3, "->a", "->a"},
		{3, "->a a>b", "->ab"},
		{3, "->a b>c", "->a ab>abc"},
		{3, "->a ac>b", "->a ac>abc"},
		{6, "->abcdef a>b", "->abcdef"},
		{2, "ab>-", "none"},
	}
	for _, c := range cases {
		got, ok := impl.ShortRules(c.n, rulesOf(c.rules))
		if !ok || textOfRules(got) != c.want {
			t.Errorf("ShortRules(%d, %s) = %s, %v, want %s, true", c.n, c.rules, textOfRules(got), ok, c.want)
		}
	}
}

func TestShortRulesByTheirDefinition(t *testing.T) {
	for _, list := range sizedLists(6) {
		models := modelsBySearch(list.n, list.rules)
		closureOf := func(s int) int { return commonOfModels(models, s) }
		want := rulesToClosures(pseudoSets(list.n, closureOf), closureOf)
		got, ok := impl.ShortRules(list.n, list.rules)
		if !ok || !sameRules(got, want) {
			t.Fatalf("ShortRules(%d, %s) = %s, %v, want %s, true", list.n, textOfRules(list.rules), textOfRules(got), ok, textOfRules(want))
		}
		if !slices.Equal(modelsBySearch(list.n, got), models) || !impl.AreEquivalent(list.rules, got) {
			t.Fatalf("ShortRules(%d, %s) = %s says something else", list.n, textOfRules(list.rules), textOfRules(got))
		}
		for k, r := range got {
			if followsBySearch(list.n, withoutPlace(got, k), r) || impl.IsRedundant(got, k) {
				t.Fatalf("%s can be left out in ShortRules(%d, %s) = %s", textOfRule(r), list.n, textOfRules(list.rules), textOfRules(got))
			}
		}
		if minimal := impl.MinimalRules(list.rules); len(got) > len(minimal) {
			t.Fatalf("ShortRules(%d, %s) = %s is longer than %s", list.n, textOfRules(list.rules), textOfRules(got), textOfRules(minimal))
		}
	}
}

// The sets that respect the rules are the rows of a context, as long as there are not too many.
func TestShortRulesAreTheStemBaseOfTheModels(t *testing.T) {
	for _, list := range sizedLists(6) {
		models := modelsBySearch(list.n, list.rules)
		if len(models) > 8 {
			continue
		}
		got, ok := impl.ShortRules(list.n, list.rules)
		if want := impl.StemBase(context(list.n, models...)); !ok || !sameRules(got, want) {
			t.Fatalf("ShortRules(%d, %s) = %s, %v, want %s, true", list.n, textOfRules(list.rules), textOfRules(got), ok, textOfRules(want))
		}
	}
}

// ShortRules may return different lists only for lists that say different things.
func TestShortRulesOfEquivalentLists(t *testing.T) {
	lists := shortRuleLists(2)
	for _, a := range lists {
		short, _ := impl.ShortRules(2, a)
		for _, b := range lists {
			other, _ := impl.ShortRules(2, b)
			if got, want := sameRules(short, other), impl.AreEquivalent(a, b); got != want {
				t.Fatalf("that %s and %s have equal ShortRules is %v", textOfRules(a), textOfRules(b), got)
			}
		}
	}
}

func TestNoEquivalentListIsShorterThanShortRules(t *testing.T) {
	lists := sizedLists(4)
	for _, rules := range shortRuleLists(3) {
		lists = append(lists, sizedRules{3, rules})
	}
	for _, list := range lists {
		models := modelsBySearch(list.n, list.rules)
		got, ok := impl.ShortRules(list.n, list.rules)
		if !ok || !isShortestSize(list.n, func(s int) int { return commonOfModels(models, s) }, len(got)) {
			t.Fatalf("the shortest list for %s does not have the %d rules of ShortRules(%d)", textOfRules(list.rules), len(got), list.n)
		}
	}
}

// rejectsSized asks for the zero results of the two functions that are told the number of elements.
func rejectsSized(t *testing.T, n int, rules []impl.Rule) {
	t.Helper()
	if got, ok := impl.ShortRules(n, rules); ok || len(got) != 0 {
		t.Fatalf("ShortRules(%d, %v) = %v, %v, want nil, false", n, rules, got, ok)
	}
	if got, ok := impl.LeftReduced(n, rules); ok || len(got) != 0 {
		t.Fatalf("LeftReduced(%d, %v) = %v, %v, want nil, false", n, rules, got, ok)
	}
}

func TestListsThatAreNoRules(t *testing.T) {
	for _, n := range append(noSizes(), 7, 8) {
		for _, rules := range [][]impl.Rule{nil, {}, {rule(0, 0)}, {rule(1, 2)}, {rule(0, 1), rule(3, 2)}, make([]impl.Rule, 41)} {
			rejectsSized(t, n, rules)
		}
	}
	for n := range 7 {
		beyond := []impl.Rule{rule(1<<n, 0), rule(0, 1<<n), rule(1<<n, 1<<n), rule(128, 0), rule(0, 64), rule(255, 255)}
		for _, r := range append(wrongRules(), beyond...) {
			for _, rules := range append(listsWith(r), []impl.Rule{rule(0, 0), r}, []impl.Rule{r, rule(0, 0)}) {
				rejectsSized(t, n, rules)
			}
		}
		for _, size := range []int{41, 42, 80, 300} {
			rejectsSized(t, n, make([]impl.Rule, size))
			rejectsSized(t, n, slices.Repeat([]impl.Rule{rule(0, 1<<n-1)}, size))
		}
	}
}

func TestListsOfMaxRules(t *testing.T) {
	for n := 1; n < 7; n++ {
		full := 1<<n - 1
		for _, size := range []int{1, 39, 40} {
			rules := slices.Repeat([]impl.Rule{rule(full, full)}, size)
			if got, ok := impl.ShortRules(n, rules); !ok || len(got) != 0 {
				t.Errorf("ShortRules of %d attributes and %d rules = %v, %v, want none, true", n, size, got, ok)
			}
			rules[size-1] = rule(0, full)
			if got, ok := impl.ShortRules(n, rules); !ok || !sameRules(got, []impl.Rule{rule(0, full)}) {
				t.Errorf("ShortRules of %d attributes and %d rules = %v, %v", n, size, got, ok)
			}
			if got, ok := impl.LeftReduced(n, rules); !ok || !sameRules(got, slices.Repeat([]impl.Rule{rule(0, full)}, size)) {
				t.Errorf("LeftReduced of %d attributes and %d rules = %v, %v", n, size, got, ok)
			}
		}
	}
}

func TestProofOf(t *testing.T) {
	cases := []struct{ rules, rule, want string }{
		{"a>b b>c ac>d", "a>d", "0:ab 1:abc 2:abcd"},
		{"a>b b>c ac>d", "a>c", "0:ab 1:abc"},
		{"a>b b>c ac>d", "a>b", "0:ab"},
		{"a>b b>c ac>d", "b>c", "1:bc"},
		{"a>b b>c ac>d", "ac>d", "0:abc 2:abcd"},
		{"a>b b>c ac>d", "abc>d", "2:abcd"},
		{"ac>d b>c a>b", "a>d", "2:ab 1:abc 0:abcd"},
		// The search for the next rule begins with the first one again.
		{"b>c ab>d a>b d>e", "a>e", "2:ab 0:abc 1:abcd 3:abcde"},
		{"cd>e b>d a>b a>c", "a>e", "2:ab 1:abd 3:abcd 0:abcde"},
		{"b>c b>d a>b", "a>cd", "2:ab 0:abc 1:abcd"},
		// Steps that are not needed are taken all the same.
		{"a>b a>c", "a>c", "0:ab 1:abc"},
		{"a>e e>f a>b", "a>b", "0:ae 1:aef 2:abef"},
		// They end as soon as the set contains Then.
		{"a>b b>c c>d", "a>b", "0:ab"},
		{"a>bcd b>e", "a>c", "0:abcd"},
		{"a>b b>c", "ac>b", "0:abc"},
		// Rules that are respected already are passed over.
		{"a>a ->- a>- a>b", "a>b", "3:ab"},
		{"a>b b>a a>b b>c", "a>c", "0:ab 3:abc"},
		{"b>c a>b a>b c>d", "a>d", "1:ab 0:abc 3:abcd"},
		// Equal rules twice: the first one is applied.
		{"a>b a>b", "a>b", "0:ab"},
		{"a>b a>b b>c b>c", "a>c", "0:ab 2:abc"},
		// What follows from nothing has a proof without steps.
		{"a>b", "ab>b", "none"},
		{"a>b b>c ac>d", "ab>b", "none"},
		{"none", "->-", "none"},
		{"none", "ab>a", "none"},
		{"none", "ab>-", "none"},
		{"none", "abcdefgh>abcdefgh", "none"},
		{"->a", "->-", "none"},
		{"->abcdefgh", "ab>ab", "none"},
		// Rules with empty sets.
		{"->a", "->a", "0:a"},
		{"->a a>b", "->b", "0:a 1:ab"},
		{"a>b ->a", "->b", "1:a 0:ab"},
		{"->a ->b", "c>b", "0:ac 1:abc"},
		{"->abcdefgh", "->abcdefgh", "0:abcdefgh"},
		{"->a ->b ->c ->d ->e ->f ->g ->h", "->h", "0:a 1:ab 2:abc 3:abcd 4:abcde 5:abcdef 6:abcdefg 7:abcdefgh"},
		{"g>h f>g e>f d>e c>d b>c a>b", "a>h", "6:ab 5:abc 4:abcd 3:abcde 2:abcdef 1:abcdefg 0:abcdefgh"},
	}
	for _, c := range cases {
		rules, r, want := rulesOf(c.rules), ruleOf(c.rule), stepsOf(c.want)
		if got, ok := impl.ProofOf(rules, r); !ok || !slices.Equal(got, want) {
			t.Errorf("ProofOf(%s, %s) = %v, %v, want %v, true", c.rules, c.rule, got, ok, want)
		}
		if !impl.CheckProof(rules, r, want) {
			t.Errorf("CheckProof(%s, %s, %v) = false", c.rules, c.rule, want)
		}
	}
}

func TestRulesWithoutAProof(t *testing.T) {
	cases := []struct{ rules, rule string }{
		{"a>b b>c ac>d", "b>a"}, {"a>b b>c ac>d", "a>e"}, {"a>b b>c ac>d", "a>bcde"}, {"a>b b>c ac>d", "->a"},
		{"a>b b>c ac>d", "b>d"}, {"a>b b>c ac>d", "abcd>h"}, {"ab>c", "a>c"}, {"ab>c", "b>c"}, {"none", "->a"}, {"none", "a>b"},
		{"->-", "->a"}, {"a>-", "a>b"}, {"a>a", "a>b"}, {"->a", "->b"}, {"a>b", "->b"}, {"->abcdefg", "->h"},
	}
	for _, c := range cases {
		rules, r := rulesOf(c.rules), ruleOf(c.rule)
		if got, ok := impl.ProofOf(rules, r); ok || len(got) != 0 {
			t.Errorf("ProofOf(%s, %s) = %v, %v, want nil, false", c.rules, c.rule, got, ok)
		}
	}
}

// proofBySearch applies rules as the chapter says; false if none is left before the goal is reached.
func proofBySearch(rules []impl.Rule, r impl.Rule) ([]impl.Step, bool) {
	var steps []impl.Step
	for now := r.If; !hasAllOf(now, r.Then); {
		k := 0
		for k < len(rules) && respectsBySearch(rules[k], now) {
			k++
		}
		if k == len(rules) {
			return nil, false
		}
		now |= rules[k].Then
		steps = append(steps, impl.Step{Rule: k, Now: now})
	}
	return steps, true
}

// Promise 11: what follows has a proof that is accepted, and nothing else has one.
func TestProofsByTheirDefinition(t *testing.T) {
	for _, list := range sizedLists(8) {
		models := modelsBySearch(list.n, list.rules)
		for _, r := range fewRulesOver(list.n, 400) {
			want, wanted := proofBySearch(list.rules, r)
			got, ok := impl.ProofOf(list.rules, r)
			if ok != wanted || !slices.Equal(got, want) {
				t.Fatalf("ProofOf(%s, %s) = %v, %v, want %v, %v", textOfRules(list.rules), textOfRule(r), got, ok, want, wanted)
			}
			if ok != impl.Follows(list.rules, r) || ok != hasAllOf(commonOfModels(models, r.If), r.Then) {
				t.Fatalf("ProofOf(%s, %s) = %v, %v, and Follows is %v", textOfRules(list.rules), textOfRule(r), got, ok, !ok)
			}
			if impl.CheckProof(list.rules, r, got) != ok {
				t.Fatalf("CheckProof(%s, %s, %v) = %v", textOfRules(list.rules), textOfRule(r), got, !ok)
			}
		}
	}
}

// isProofBySearch checks the steps and all sets as the chapter says.
func isProofBySearch(rules []impl.Rule, r impl.Rule, steps []impl.Step) bool {
	isSet := func(s int) bool { return s >= 0 && s < allSets }
	for _, other := range append(slices.Clone(rules), r) {
		if !isSet(other.If) || !isSet(other.Then) {
			return false
		}
	}
	now := r.If
	for _, step := range steps {
		if !isSet(step.Now) || step.Rule < 0 || step.Rule >= len(rules) || !hasAllOf(now, rules[step.Rule].If) {
			return false
		}
		for e, in := range membersOf(step.Now) {
			if in != (membersOf(now)[e] || membersOf(rules[step.Rule].Then)[e]) {
				return false
			}
		}
		now = step.Now
	}
	return hasAllOf(now, r.Then)
}

func TestCheckProof(t *testing.T) {
	cases := []struct {
		rules, rule, steps string
		want               bool
	}{
		{"a>b b>c ac>d", "a>d", "0:ab 1:abc 2:abcd", true},
		{"a>b b>c ac>d", "b>d", "0:ab 1:abc 2:abcd", false},
		// Any order and further steps are right, and so are steps that add nothing.
		{"a>b a>c bc>d", "a>d", "1:ac 0:abc 2:abcd", true},
		{"a>b b>c ac>d", "a>b", "0:ab 1:abc 2:abcd", true},
		{"a>b b>c ac>d", "a>c", "0:ab 0:ab 1:abc 0:abc 1:abc", true},
		{"a>b ->-", "a>b", "1:a 1:a 0:ab 1:ab", true},
		{"a>b a>a", "a>b", "1:a 0:ab", true},
		{"a>b a>b", "a>b", "1:ab", true},
		{"a>b a>b", "a>b", "0:ab 1:ab", true},
		{"a>b", "ab>b", "0:ab", true},
		// The goal is not reached.
		{"a>b b>c ac>d", "a>d", "0:ab 1:abc", false},
		{"a>b b>c ac>d", "a>d", "none", false},
		{"a>b b>c ac>d", "a>e", "0:ab 1:abc 2:abcd", false},
		{"a>b b>c ac>d", "a>de", "0:ab 1:abc 2:abcd", false},
		// If of a rule is not in the set before.
		{"a>b b>c ac>d", "a>d", "1:ac 2:acd", false},
		{"a>b b>c ac>d", "a>d", "2:ad", false},
		{"a>b b>c", "a>c", "1:abc 0:abc", false},
		{"a>b b>c", "->c", "0:b 1:bc", false},
		{"ab>c", "a>c", "0:ac", false},
		{"b>-", "a>a", "0:a", false},
		// The set behind a step has too much, too little or something else.
		{"a>b b>c ac>d", "a>d", "0:abc 2:abcd", false},
		{"a>b b>c ac>d", "a>d", "0:abcd", false},
		{"a>b b>c ac>d", "a>d", "0:b 1:bc 2:bcd", false},
		{"a>b b>c", "a>c", "0:ab 1:bc", false},
		{"a>b b>c", "a>c", "0:ab 1:c", false},
		{"a>b b>c", "a>b", "0:ab 1:ab", false},
		{"a>b b>c", "a>b", "0:ab 1:abd", false},
		{"a>b", "a>b", "0:b", false},
		{"a>b", "a>b", "0:a", false},
		{"a>b", "a>a", "0:a", false},
		{"a>b", "a>a", "0:-", false},
		{"a>b", "a>a", "0:abh", false},
		// No rule has the index.
		{"a>b b>c", "a>b", "2:ab", false},
		{"a>b b>c", "a>b", "0:ab 2:ab", false},
		{"a>b b>c", "a>a", "9:a", false},
		{"none", "a>a", "0:a", false},
		{"none", "a>b", "0:ab", false},
		// Without steps If has to contain Then.
		{"none", "->-", "none", true},
		{"none", "ab>b", "none", true},
		{"none", "ab>-", "none", true},
		{"a>b", "a>a", "none", true},
		{"none", "abcdefgh>abcdefgh", "none", true},
		{"a>b", "a>b", "none", false},
		{"->b", "->b", "none", false},
		{"none", "->a", "none", false},
		// Rules with empty sets.
		{"->a", "->a", "0:a", true},
		{"->a", "b>a", "0:ab", true},
		{"->a", "b>a", "0:a", false},
		{"->-", "->-", "0:-", true},
		{"->-", "->a", "0:-", false},
		{"->-", "->a", "0:a", false},
		{"a>-", "a>-", "0:a", true},
		{"a>-", "->-", "0:-", false},
		{"->abcdefgh", "->abcdefgh", "0:abcdefgh", true},
	}
	for _, c := range cases {
		rules, r, steps := rulesOf(c.rules), ruleOf(c.rule), stepsOf(c.steps)
		if got := impl.CheckProof(rules, r, steps); got != c.want || got != isProofBySearch(rules, r, steps) {
			t.Errorf("CheckProof(%s, %s, %s) = %v", c.rules, c.rule, c.steps, got)
		}
	}
}

// All lists of at most two steps are tried, also with rules that do not exist.
func TestCheckProofOfAllShortProofs(t *testing.T) {
	var steps []impl.Step
	for k := -1; k < 3; k++ {
		for now := -1; now < 5; now++ {
			steps = append(steps, impl.Step{Rule: k, Now: now})
		}
	}
	proofs := [][]impl.Step{nil}
	for _, first := range steps {
		proofs = append(proofs, []impl.Step{first})
		for _, second := range steps {
			proofs = append(proofs, []impl.Step{first, second})
		}
	}
	goals := rulesOver(2)
	for i, rules := range shortRuleLists(2) {
		for k := i % 3; k < len(goals); k += 3 {
			proved := false
			for _, proof := range proofs {
				got := impl.CheckProof(rules, goals[k], proof)
				if got != isProofBySearch(rules, goals[k], proof) {
					t.Fatalf("CheckProof(%s, %s, %v) = %v", textOfRules(rules), textOfRule(goals[k]), proof, got)
				}
				proved = proved || got
			}
			// Two elements are never more than two steps away.
			if proved != impl.Follows(rules, goals[k]) {
				t.Fatalf("that one of all short proofs of %s from %s is right is %v", textOfRule(goals[k]), textOfRules(rules), proved)
			}
		}
	}
}

// changedProofs returns the steps with one of them changed, missing, doubled or at another place.
func changedProofs(steps []impl.Step) [][]impl.Step {
	var list [][]impl.Step
	for k, step := range steps {
		for _, other := range []impl.Step{{Rule: step.Rule + 1, Now: step.Now}, {Rule: step.Rule - 1, Now: step.Now}, {Rule: -1, Now: step.Now}, {Rule: step.Rule, Now: -1}, {Rule: step.Rule, Now: step.Now + allSets}, {Rule: step.Rule, Now: 255}} {
			changed := slices.Clone(steps)
			changed[k] = other
			list = append(list, changed)
		}
		for e := range 8 {
			changed := slices.Clone(steps)
			changed[k].Now ^= 1 << e
			list = append(list, changed)
		}
		list = append(list, slices.Delete(slices.Clone(steps), k, k+1), slices.Insert(slices.Clone(steps), k, step), steps[:k])
		if k > 0 {
			swapped := slices.Clone(steps)
			swapped[k-1], swapped[k] = swapped[k], swapped[k-1]
			list = append(list, swapped)
		}
	}
	return list
}

func TestChangedProofs(t *testing.T) {
	for _, list := range sizedLists(6) {
		for _, r := range fewRulesOver(list.n, 40) {
			steps, ok := impl.ProofOf(list.rules, r)
			if !ok {
				continue
			}
			for _, changed := range changedProofs(steps) {
				if got := impl.CheckProof(list.rules, r, changed); got != isProofBySearch(list.rules, r, changed) {
					t.Fatalf("CheckProof(%s, %s, %v) = %v", textOfRules(list.rules), textOfRule(r), changed, got)
				}
			}
			// The last step is the one that reaches the goal.
			if len(steps) > 0 && impl.CheckProof(list.rules, r, steps[:len(steps)-1]) {
				t.Fatalf("ProofOf(%s, %s) = %v has a step too many", textOfRules(list.rules), textOfRule(r), steps)
			}
		}
	}
}

// rejectsProof asks for the answers to rules of which one has something that is no set.
func rejectsProof(t *testing.T, rules []impl.Rule, r impl.Rule) {
	t.Helper()
	if got, ok := impl.ProofOf(rules, r); ok || len(got) != 0 {
		t.Fatalf("ProofOf(%v, %v) = %v, %v, want nil, false", rules, r, got, ok)
	}
	proofs := [][]impl.Step{nil, {}, {{Rule: 0, Now: r.If}}, {{Rule: 0, Now: 255}}, {{Rule: 0, Now: r.If | r.Then}}}
	if len(rules) > 0 {
		last := len(rules) - 1
		proofs = append(proofs, []impl.Step{{Rule: 0, Now: r.If | rules[0].Then}}, []impl.Step{{Rule: last, Now: r.If | rules[last].Then}})
	}
	for _, steps := range proofs {
		if impl.CheckProof(rules, r, steps) {
			t.Fatalf("CheckProof(%v, %v, %v) = true", rules, r, steps)
		}
	}
}

// A rule that no step uses has to be one of sets as well.
func TestProofsWithWhatIsNoSet(t *testing.T) {
	for _, wrong := range wrongRules() {
		for _, rules := range append(listsWith(wrong), []impl.Rule{rule(0, 255), wrong}) {
			for _, r := range []impl.Rule{rule(0, 0), rule(1, 2), rule(1, 1), rule(255, 0), rule(255, 255), wrong} {
				rejectsProof(t, rules, r)
			}
		}
		for _, rules := range [][]impl.Rule{nil, {}, {rule(0, 0)}, {rule(0, 255)}, {rule(255, 255)}, {rule(1, 2), rule(0, 0)}} {
			rejectsProof(t, rules, wrong)
		}
	}
	for _, s := range noSetNumbers() {
		for _, steps := range [][]impl.Step{{{Rule: 0, Now: s}}, {{Rule: 0, Now: 3}, {Rule: 0, Now: s}}, {{Rule: 0, Now: s}, {Rule: 0, Now: 3}}} {
			for _, r := range []impl.Rule{rule(1, 2), rule(1, 1), rule(1, 0), rule(255, 0)} {
				if impl.CheckProof([]impl.Rule{rule(1, 2)}, r, steps) {
					t.Errorf("CheckProof(a>b, %v, %v) = true", r, steps)
				}
			}
		}
	}
}

// Only AreRules has a limit on the number of rules, and the number of steps of a proof has none.
func TestInferenceFromManyRules(t *testing.T) {
	for _, size := range []int{40, 41, 42, 300, 1000} {
		rules := make([]impl.Rule, size)
		rules[size-1] = rule(1, 2)
		rules[size-2] = rule(3, 128)
		steps := []impl.Step{{Rule: size - 1, Now: 3}, {Rule: size - 2, Now: 131}}
		if got, ok := impl.ProofOf(rules, rule(1, 128)); !ok || !slices.Equal(got, steps) {
			t.Errorf("ProofOf from %d rules = %v, %v, want %v, true", size, got, ok, steps)
		}
		if got, ok := impl.ProofOf(rules, rule(2, 128)); ok || len(got) != 0 {
			t.Errorf("ProofOf from %d rules = %v, %v, want nil, false", size, got, ok)
		}
		idle := append(slices.Repeat([]impl.Step{{Rule: 0, Now: 1}}, 2000), steps...)
		if !impl.CheckProof(rules, rule(1, 128), idle) || impl.CheckProof(rules, rule(1, 64), idle) {
			t.Errorf("CheckProof from %d rules and of %d steps is wrong", size, len(idle))
		}
		if got := impl.MinimalRules(rules); textOfRules(got) != "ab>h a>b" {
			t.Errorf("MinimalRules of %d rules = %s", size, textOfRules(got))
		}
		if !impl.IsRedundant(rules, 0) || impl.IsRedundant(rules, size-1) || !impl.AreEquivalent(rules, rulesOf("a>bh ab>h")) || impl.AreEquivalent(rules, rulesOf("a>h a>bg")) {
			t.Errorf("IsRedundant or AreEquivalent of %d rules is wrong", size)
		}
	}
}

func TestLeftReduced(t *testing.T) {
	cases := []struct {
		n           int
		rules, want string
	}{
		{3, "a>b ab>c", "a>b a>c"},
		{3, "ab>c a>b", "a>c a>b"},
		{3, "b>a ab>c", "b>a b>c"},
		// Of several elements that can be spared alone, the least one goes.
		{3, "a>b b>a ab>c", "a>b b>a b>c"},
		{3, "b>a a>b abc>c", "b>a a>b c>c"},
		{4, "a>b b>a ac>d bc>d", "a>b b>a ac>d bc>d"},
		{4, "a>b b>a abc>d", "a>b b>a bc>d"},
		{5, "ac>bd bd>ac abcd>e", "ac>bd bd>ac bd>e"},
		{6, "a>b b>c c>d d>e abcde>f", "a>b b>c c>d d>e a>f"},
		{6, "e>d d>c c>b b>a abcde>f", "e>d d>c c>b b>a e>f"},
		{3, "a>c ab>c", "a>c a>c"},
		{3, "ab>c b>c", "b>c b>c"},
		// Then stays as it is, and so does a rule that all elements of its If are needed for.
		{3, "a>ab ab>abc", "a>ab a>abc"},
		{4, "ab>c bc>d", "ab>c bc>d"},
		{2, "ab>a", "a>a"},
		{2, "ab>b", "b>b"},
		{2, "a>a ab>ab", "a>a ab>ab"},
		// Rules that follow from nothing, and equal rules twice.
		{0, "none", "none"},
		{6, "none", "none"},
		{0, "->- ->-", "->- ->-"},
		{2, "ab>-", "->-"},
		{2, "a>- b>-", "->- ->-"},
		{3, "a>b ab>c ab>c", "a>b a>c a>c"},
		{3, "a>b a>b", "a>b a>b"},
		{6, "abcdef>-", "->-"},
		// Rules with empty sets.
		{1, "->a", "->a"},
		{3, "->a ab>c", "->a b>c"},
		{3, "ab>c ->a", "b>c ->a"},
		{3, "->ab abc>ab", "->ab ->ab"},
		{2, "->a a>b", "->a ->b"},
		{6, "->abcdef abcdef>abcdef", "->abcdef ->abcdef"},
	}
	for _, c := range cases {
		got, ok := impl.LeftReduced(c.n, rulesOf(c.rules))
		if !ok || textOfRules(got) != c.want {
			t.Errorf("LeftReduced(%d, %s) = %s, %v, want %s, true", c.n, c.rules, textOfRules(got), ok, c.want)
		}
	}
}

// leftReducedBySearch removes elements one after the other as the chapter says; the models are those of the rules given.
func leftReducedBySearch(models []int, r impl.Rule) impl.Rule {
	for e, in := range membersOf(r.If) {
		if in && hasAllOf(commonOfModels(models, r.If-1<<e), r.Then) {
			r.If -= 1 << e
		}
	}
	return r
}

// No element of an If can be left out, and nothing else is said.
func TestLeftReducedByItsDefinition(t *testing.T) {
	for _, list := range sizedLists(6) {
		models := modelsBySearch(list.n, list.rules)
		got, ok := impl.LeftReduced(list.n, list.rules)
		if !ok || len(got) != len(list.rules) {
			t.Fatalf("LeftReduced(%d, %s) = %s, %v", list.n, textOfRules(list.rules), textOfRules(got), ok)
		}
		if !slices.Equal(modelsBySearch(list.n, got), models) || !impl.AreEquivalent(got, list.rules) {
			t.Fatalf("LeftReduced(%d, %s) = %s says something else", list.n, textOfRules(list.rules), textOfRules(got))
		}
		for k, r := range got {
			if want := leftReducedBySearch(models, list.rules[k]); r != want {
				t.Fatalf("LeftReduced(%d, %s) has %s at place %d, want %s", list.n, textOfRules(list.rules), textOfRule(r), k, textOfRule(want))
			}
			for e, in := range membersOf(r.If) {
				if in && impl.Follows(got, rule(r.If-1<<e, r.Then)) {
					t.Fatalf("element %d of %s is not needed in LeftReduced(%d, %s)", e, textOfRule(r), list.n, textOfRules(list.rules))
				}
			}
		}
		if again, ok := impl.LeftReduced(list.n, got); !ok || !sameRules(again, got) {
			t.Fatalf("LeftReduced(%d, %s) = %s, %v", list.n, textOfRules(got), textOfRules(again), ok)
		}
	}
}

// Promise 31 for chapter 11; what stands behind the rules and the steps is no part of them.
func TestInferenceKeepsItsArguments(t *testing.T) {
	keptRules := []impl.Rule{rule(1, 2), rule(3, 4), rule(1, 2), rule(0, 0), rule(7, 8), rule(1, 8), rule(5, 5), rule(-1, 300)}
	keptSteps := []impl.Step{{Rule: 0, Now: 3}, {Rule: 1, Now: 7}, {Rule: 4, Now: 15}, {Rule: 0, Now: 15}, {Rule: -1, Now: 300}}
	for size := range len(keptRules) + 1 {
		list := slices.Clone(keptRules)
		rules := list[:size]
		impl.AreEquivalent(rules, rules)
		impl.AreEquivalent(rules, list[:size/2])
		for k := -1; k <= size; k++ {
			impl.IsRedundant(rules, k)
		}
		impl.MinimalRules(rules)
		for n := range 8 {
			impl.ShortRules(n, rules)
			impl.LeftReduced(n, rules)
		}
		for length := range len(keptSteps) + 1 {
			steps := slices.Clone(keptSteps)
			impl.CheckProof(rules, rule(1, 8), steps[:length])
			if !slices.Equal(steps, keptSteps) {
				t.Errorf("a list of %d steps is changed to %v", length, steps)
			}
		}
		impl.ProofOf(rules, rule(1, 8))
		if !sameRules(list, keptRules) {
			t.Errorf("a list of %d rules is changed to %v", size, list)
		}
	}
}

// overwrite spoils a list with its unused capacity.
func overwrite[E any](list []E, e E) {
	all := list[:cap(list)]
	for i := range all {
		all[i] = e
	}
}

// Promise 31 for chapter 11.
func TestInferenceResultsAreNewEachTime(t *testing.T) {
	kept := rulesOf("b>b a>b ab>c ac>d")
	rules := slices.Clone(kept)
	check := func() {
		t.Helper()
		minimal := impl.MinimalRules(rules)
		short, isShort := impl.ShortRules(4, rules)
		reduced, isReduced := impl.LeftReduced(4, rules)
		steps, isProof := impl.ProofOf(rules, rule(1, 8))
		if !sameRules(rules, kept) || textOfRules(minimal) != "a>b ab>c ac>d" || !isShort || textOfRules(short) != "a>abcd" || !isReduced || textOfRules(reduced) != "b>b a>b a>c a>d" || !isProof || !slices.Equal(steps, stepsOf("1:ab 2:abc 3:abcd")) {
			t.Errorf("writing into a result changes the rules or another result: %v, %v, %v, %v, %v", rules, minimal, short, reduced, steps)
		}
		overwrite(minimal, rule(-1, 99))
		overwrite(short, rule(-1, 99))
		overwrite(reduced, rule(-1, 99))
		overwrite(steps, impl.Step{Rule: -1, Now: 99})
	}
	for range 3 {
		check()
	}
	// Lists from which nothing is removed are new as well.
	independent := rulesOf("a>b c>d")
	overwrite(impl.MinimalRules(independent), rule(-1, 99))
	reduced, _ := impl.LeftReduced(4, independent)
	overwrite(reduced, rule(-1, 99))
	if textOfRules(independent) != "a>b c>d" {
		t.Errorf("writing into a result changes the rules to %v", independent)
	}
	minimal := impl.MinimalRules(independent)
	independent[0] = rule(0, 255)
	if textOfRules(minimal) != "a>b c>d" {
		t.Errorf("writing into the rules changes a result to %v", minimal)
	}
}

// Promise 31 for chapter 11: no numbers are too great.
func TestInferenceIsTotal(t *testing.T) {
	numbers := []int{math.MinInt, math.MinInt + 1, -1 << 32, -256, -1, 0, 1, 63, 255, 256, 1 << 32, 1<<63 - 2, math.MaxInt}
	valid := func(s int) bool { return s >= 0 && s <= 255 }
	for _, from := range numbers {
		for _, to := range numbers {
			r := rule(from, to)
			rules := []impl.Rule{r}
			ok := valid(from) && valid(to)
			if impl.AreEquivalent(rules, rules) != ok || impl.AreEquivalent(rules, nil) != (ok && to&^from == 0) {
				t.Errorf("AreEquivalent of %v and itself or nothing is wrong", rules)
			}
			if got := impl.MinimalRules(rules); len(got) > 0 && (!ok || !sameRules(got, rules)) {
				t.Errorf("MinimalRules(%v) = %v", rules, got)
			}
			if _, proved := impl.ProofOf(rules, r); proved != ok {
				t.Errorf("ProofOf(%v, %v) = %v", rules, r, proved)
			}
			for _, k := range numbers {
				if impl.IsRedundant(rules, k) && !(ok && k == 0) {
					t.Errorf("IsRedundant(%v, %d) = true", rules, k)
				}
				if _, short := impl.ShortRules(k, rules); short && !(ok && k >= 0 && k <= 6) {
					t.Errorf("ShortRules(%d, %v) is true", k, rules)
				}
				if _, reduced := impl.LeftReduced(k, rules); reduced && !(ok && k >= 0 && k <= 6) {
					t.Errorf("LeftReduced(%d, %v) is true", k, rules)
				}
				for _, now := range numbers {
					steps := []impl.Step{{Rule: k, Now: now}}
					if got := impl.CheckProof(rules, r, steps); got != (ok && k == 0 && now == from|to) {
						t.Errorf("CheckProof(%v, %v, %v) = %v", rules, r, steps, got)
					}
				}
			}
		}
	}
}
