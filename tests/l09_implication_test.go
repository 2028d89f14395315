package tests

import (
	"math"
	"slices"
	"strings"
	"testing"

	"loop.example/g00596/impl"
)

func rule(from, to int) impl.Rule {
	return impl.Rule{If: from, Then: to}
}

// textOfSet writes a set without the program's help.
func textOfSet(s int) string {
	_, text, _ := strings.Cut(textOfContext(context(8, s)), " ")
	return text
}

func textOfRule(r impl.Rule) string {
	return textOfSet(r.If) + ">" + textOfSet(r.Then)
}

func textOfRules(rules []impl.Rule) string {
	if len(rules) == 0 {
		return "none"
	}
	var texts []string
	for _, r := range rules {
		texts = append(texts, textOfRule(r))
	}
	return strings.Join(texts, " ")
}

// setOf returns the set of the letters in the text; "-" is the empty one.
func setOf(text string) int {
	s := 0
	for e, power := 0, 1; e < 8; e, power = e+1, 2*power {
		if strings.Contains(text, "abcdefgh"[e:e+1]) {
			s += power
		}
	}
	return s
}

// ruleOf returns the rule of the letters on both sides of the sign.
func ruleOf(text string) impl.Rule {
	from, to, _ := strings.Cut(text, ">")
	return rule(setOf(from), setOf(to))
}

func rulesOf(text string) []impl.Rule {
	var rules []impl.Rule
	if text != "none" {
		for _, part := range strings.Split(text, " ") {
			rules = append(rules, ruleOf(part))
		}
	}
	return rules
}

func hasAllOf(s, other int) bool {
	return containsAll(membersOf(s), membersOf(other))
}

func respectsBySearch(r impl.Rule, s int) bool {
	return hasAllOf(s, r.Then) || !hasAllOf(s, r.If)
}

// modelsBySearch returns the sets of n elements that respect all rules.
func modelsBySearch(n int, rules []impl.Rule) []int {
	var models []int
	for s := range 1 << n {
		respected := true
		for _, r := range rules {
			respected = respected && respectsBySearch(r, s)
		}
		if respected {
			models = append(models, s)
		}
	}
	return models
}

// commonOfModels returns what all sets of the list that contain s have in common.
func commonOfModels(models []int, s int) int {
	common := membersOf(255)
	for _, model := range models {
		if hasAllOf(model, s) {
			for e, in := range membersOf(model) {
				common[e] = common[e] && in
			}
		}
	}
	return setOfMembers(common)
}

// rulesOver returns all rules between sets of n attributes.
func rulesOver(n int) []impl.Rule {
	var rules []impl.Rule
	for from := range 1 << n {
		for to := range 1 << n {
			rules = append(rules, rule(from, to))
		}
	}
	return rules
}

// shortRuleLists returns all lists of at most two rules over n attributes.
func shortRuleLists(n int) [][]impl.Rule {
	lists := [][]impl.Rule{nil}
	for _, first := range rulesOver(n) {
		lists = append(lists, []impl.Rule{first})
		for _, second := range rulesOver(n) {
			lists = append(lists, []impl.Rule{first, second})
		}
	}
	return lists
}

// sampleRules returns lists of up to MaxRules rules over n attributes, most of them short ones of small sets; the same ones each time.
func sampleRules(n int) [][]impl.Rule {
	var lists [][]impl.Rule
	seed := n + 1
	next := func(bound int) int {
		seed = (seed*1103515245 + 12345) % (1 << 31)
		return (seed >> 16) % bound
	}
	for _, size := range []int{0, 1, 2, 3, 4, 5, 6, 7, 8, 9, 12, 16, 24, 40} {
		for kind := range 3 {
			var rules []impl.Rule
			for range size {
				from, to := next(1<<n), next(1<<n)
				if kind > 0 {
					from &= next(1 << n)
					to &= next(1 << n)
				}
				if kind > 1 {
					to &= next(1 << n)
				}
				rules = append(rules, rule(from, to))
			}
			lists = append(lists, rules)
		}
	}
	return lists
}

// wrongRules lists rules of which one set or both are none.
func wrongRules() []impl.Rule {
	var rules []impl.Rule
	for _, s := range noSetNumbers() {
		rules = append(rules, rule(s, 0), rule(0, s), rule(s, 255), rule(255, s), rule(s, 5), rule(5, s), rule(s, s))
	}
	return rules
}

// listsWith returns lists in which the rule stands alone, first, last or between others.
func listsWith(r impl.Rule) [][]impl.Rule {
	return [][]impl.Rule{{r}, {r, r}, {r, rule(1, 2)}, {rule(1, 2), r}, {rule(0, 1), r, rule(1, 6)}, append(make([]impl.Rule, 39), r), append(make([]impl.Rule, 40), r)}
}

func sameRules(a, b []impl.Rule) bool { return slices.Equal(a, b) }

func TestMaxRules(t *testing.T) {
	if impl.MaxRules != 40 {
		t.Errorf("MaxRules = %d, want 40", impl.MaxRules)
	}
}

func TestAreRules(t *testing.T) {
	cases := []struct {
		n     int
		rules string
		want  bool
	}{
		{4, "a>b bc>d", true},
		{3, "a>b bc>d", false},
		{2, "a>b bc>d", false},
		{6, "a>b bc>d", true},
		{0, "none", true},
		{6, "none", true},
		{7, "none", false},
		{0, "->-", true},
		{0, "->a", false},
		{0, "a>-", false},
		{1, "->- ->a a>- a>a", true},
		{1, "->- ->a a>- a>b", false},
		{1, "b>- ->a a>- a>a", false},
		{5, "abcde>abcde", true},
		{5, "abcde>abcdef", false},
		{5, "abcdef>abcde", false},
		{6, "abcdef>abcdef", true},
		{6, "abcdefg>-", false},
		{6, "->abcdefg", false},
		{6, "h>h", false},
		{7, "abcdefg>-", false},
		{8, "abcdefgh>-", false},
	}
	for _, c := range cases {
		if got := impl.AreRules(c.n, rulesOf(c.rules)); got != c.want {
			t.Errorf("AreRules(%d, %s) = %v", c.n, c.rules, got)
		}
	}
	power := 1
	for n := range 7 {
		for s := -3; s <= 300; s++ {
			want := s >= 0 && s < power
			if impl.AreRules(n, []impl.Rule{rule(s, 0)}) != want || impl.AreRules(n, []impl.Rule{rule(0, s)}) != want {
				t.Errorf("AreRules of %d attributes and of rules with %d is not %v", n, s, want)
			}
		}
		power *= 2
	}
}

func TestAreRulesUpToMaxRules(t *testing.T) {
	for n := range 7 {
		full := 1<<n - 1
		for _, r := range []impl.Rule{rule(0, 0), rule(0, full), rule(full, 0), rule(full, full)} {
			for _, size := range []int{0, 1, 38, 39, 40, 41, 42, 80, 300} {
				rules := slices.Repeat([]impl.Rule{r}, size)
				if got := impl.AreRules(n, rules); got != (size <= 40) {
					t.Errorf("AreRules of %d attributes and %d rules = %v", n, size, got)
				}
			}
		}
	}
}

func TestAreRulesRejects(t *testing.T) {
	for _, n := range append(noSizes(), 7, 8) {
		for _, rules := range [][]impl.Rule{nil, {}, {rule(0, 0)}, {rule(1, 2)}, make([]impl.Rule, 40), make([]impl.Rule, 41)} {
			if impl.AreRules(n, rules) {
				t.Errorf("AreRules(%d, %v) = true", n, rules)
			}
		}
	}
	for n := range 7 {
		beyond := []impl.Rule{rule(1<<n, 0), rule(0, 1<<n), rule(1<<n, 1<<n), rule(128, 0), rule(0, 64)}
		for _, r := range append(wrongRules(), beyond...) {
			for _, rules := range listsWith(r) {
				if impl.AreRules(n, rules) {
					t.Errorf("AreRules(%d, %v) = true", n, rules)
				}
			}
		}
	}
}

func TestHoldsIn(t *testing.T) {
	cases := []struct {
		context, rule string
		want          bool
	}{
		{"4 ab,b,bc,cd", "a>b", true},
		{"4 ab,b,bc,cd", "d>c", true},
		{"4 ab,b,bc,cd", "c>b", false},
		{"4 ab,b,bc,cd", "b>a", false},
		{"4 ab,b,bc,cd", "a>ab", true},
		{"4 ab,b,bc,cd", "a>bc", false},
		{"4 ab,b,bc,cd", "b>b", true},
		{"4 ab,b,bc,cd", "bc>b", true},
		// No object has all of these.
		{"4 ab,b,bc,cd", "ac>d", true},
		{"4 ab,b,bc,cd", "ad>abcd", true},
		{"4 ab,b,bc,cd", "abcd>-", true},
		// Empty sets.
		{"4 ab,b,bc,cd", "->-", true},
		{"4 ab,b,bc,cd", "a>-", true},
		{"4 ab,b,bc,cd", "->b", false},
		{"4 ab,b,bc,bcd", "->b", true},
		{"4 ab,b,-,bc", "->b", false},
		{"2 -", "->-", true},
		{"2 -", "->a", false},
		{"2 -", "a>b", true},
		{"2 ab,ab", "->ab", true},
		// Attributes that the context does not have.
		{"4 ab,b,bc,cd", "a>e", false},
		{"4 ab,b,bc,cd", "e>a", false},
		{"4 ab,b,bc,cd", "e>e", false},
		{"4 ab,b,bc,cd", "e>-", false},
		{"4 ab,b,bc,cd", "->e", false},
		{"4 ab,b,bc,cd", "acd>abcde", false},
		{"2 none", "c>-", false},
		{"2 none", "a>c", false},
		{"0 none", "a>a", false},
		{"0 -", "->a", false},
		{"6 abcdef", "g>a", false},
		{"6 abcdef", "a>h", false},
		// Without objects or without attributes.
		{"2 none", "->ab", true},
		{"2 none", "a>b", true},
		{"6 none", "->abcdef", true},
		{"0 none", "->-", true},
		{"0 -,-", "->-", true},
		// Each of the objects counts.
		{"2 a,ab,ab,ab,ab,ab,ab,ab", "a>b", false},
		{"2 ab,ab,ab,ab,ab,ab,ab,a", "a>b", false},
		{"2 ab,b,ab,-,ab,b,ab,ab", "a>b", true},
		{"6 abcdef,bcdef", "bcdef>a", false},
		{"6 abcdef,acdef", "bcdef>a", true},
	}
	for _, c := range cases {
		if got := impl.HoldsIn(parsedContext(t, c.context), ruleOf(c.rule)); got != c.want {
			t.Errorf("HoldsIn(%s, %s) = %v", c.context, c.rule, got)
		}
	}
}

// A rule holds exactly if every row respects it, and exactly if Then is in what If closes to.
func TestRulesHoldIfEveryRowRespectsThem(t *testing.T) {
	for _, c := range derivationContexts() {
		all := rulesOver(c.Attributes)
		for i := 0; i < len(all); i += 1 + len(all)/600 {
			r := all[i]
			want, respected := true, true
			for _, row := range c.Rows {
				want = want && respectsBySearch(r, row)
				respected = respected && impl.Respects(r, row)
			}
			closure := intentBySearch(c, extentBySearch(c, r.If))
			if got := impl.HoldsIn(c, r); got != want || got != respected || got != hasAllOf(closure, r.Then) {
				t.Fatalf("HoldsIn(%v, %s) = %v, want %v", c, textOfRule(r), got, want)
			}
		}
	}
}

func TestRulesOfValuesThatAreNoContexts(t *testing.T) {
	list := append(noContexts(), context(2, 3, 3, 4), context(2, 3, -1), context(7, 127), context(-1))
	for _, c := range list {
		for _, r := range []impl.Rule{rule(0, 0), rule(1, 1), rule(1, 0), rule(3, 2), rule(0, 1)} {
			if impl.HoldsIn(c, r) {
				t.Errorf("HoldsIn(%v, %v) = true", c, r)
			}
		}
	}
}

func TestRulesThatTheContextDoesNotHave(t *testing.T) {
	list := sampleContexts()
	for n := range 7 {
		list = append(list, context(n), context(n, 1<<n-1), context(n, 0))
	}
	for _, c := range list {
		beyond := wrongRules()
		for s := 1 << c.Attributes; s < 300; s = 2*s + 1 {
			beyond = append(beyond, rule(s, 0), rule(0, s), rule(s, s), rule(1<<c.Attributes-1, s), rule(s, 1<<c.Attributes-1))
		}
		for _, r := range beyond {
			if impl.HoldsIn(c, r) {
				t.Fatalf("HoldsIn(%v, %v) = true", c, r)
			}
		}
	}
}

func TestRespects(t *testing.T) {
	cases := []struct {
		rule, set string
		want      bool
	}{
		{"a>b", "bc", true}, {"a>b", "ac", false}, {"a>b", "ab", true}, {"a>b", "-", true}, {"a>b", "a", false},
		{"ab>c", "a", true}, {"ab>c", "abd", false}, {"ab>c", "abc", true}, {"ab>c", "c", true},
		{"a>bc", "ab", false}, {"a>bc", "abc", true}, {"a>ab", "a", false}, {"a>a", "a", true}, {"ab>a", "ab", true},
		{"->-", "-", true}, {"->-", "abcdefgh", true}, {"->a", "-", false}, {"->a", "b", false}, {"->a", "a", true},
		{"a>-", "a", true}, {"a>-", "-", true}, {"->abcdefgh", "abcdefgh", true}, {"->abcdefgh", "abcdefg", false},
		{"h>g", "h", false}, {"h>g", "gh", true}, {"abcdefgh>-", "abcdefgh", true}, {"abcdefg>h", "abcdefg", false},
	}
	for _, c := range cases {
		if got := impl.Respects(ruleOf(c.rule), setOf(c.set)); got != c.want {
			t.Errorf("Respects(%s, %s) = %v", c.rule, c.set, got)
		}
	}
}

func TestRespectsOfAllSmallSets(t *testing.T) {
	for _, r := range rulesOver(5) {
		for s := range 32 {
			if got := impl.Respects(r, s); got != respectsBySearch(r, s) {
				t.Fatalf("Respects(%s, %s) = %v", textOfRule(r), textOfSet(s), got)
			}
		}
	}
	for from := 1; from < 256; from += 6 {
		for to := 0; to < 256; to += 5 {
			for s := range 256 {
				if got := impl.Respects(rule(from, to), s); got != respectsBySearch(rule(from, to), s) {
					t.Fatalf("Respects(%s, %s) = %v", textOfRule(rule(from, to)), textOfSet(s), got)
				}
			}
		}
	}
}

func TestRespectsRejects(t *testing.T) {
	for _, r := range wrongRules() {
		for s := range 256 {
			if impl.Respects(r, s) {
				t.Errorf("Respects(%v, %d) = true", r, s)
			}
		}
		for _, s := range noSetNumbers() {
			if impl.Respects(r, s) {
				t.Errorf("Respects(%v, %d) = true", r, s)
			}
		}
	}
	for _, s := range noSetNumbers() {
		for _, r := range []impl.Rule{rule(0, 0), rule(255, 0), rule(0, 255), rule(255, 255), rule(1, 2), rule(5, 5)} {
			if impl.Respects(r, s) {
				t.Errorf("Respects(%v, %d) = true", r, s)
			}
		}
	}
}

func TestClosedBy(t *testing.T) {
	cases := []struct{ rules, set, want string }{
		{"a>b bc>d", "ac", "abcd"},
		{"a>b bc>d", "a", "ab"},
		{"a>b bc>d", "c", "c"},
		{"a>b bc>d", "-", "-"},
		{"a>b bc>d", "bc", "bcd"},
		{"a>b bc>d", "aeh", "abeh"},
		// Sets that are closed already.
		{"a>b bc>d", "ab", "ab"},
		{"a>b bc>d", "abcd", "abcd"},
		{"a>b bc>d", "bd", "bd"},
		{"none", "-", "-"},
		{"none", "ce", "ce"},
		{"none", "abcdefgh", "abcdefgh"},
		{"->a a>b", "ab", "ab"},
		{"abcdefgh>abcdefgh", "abcdefgh", "abcdefgh"},
		// Rules with empty sets.
		{"->-", "-", "-"},
		{"->-", "bd", "bd"},
		{"a>-", "a", "a"},
		{"->a", "-", "a"},
		{"->a", "b", "ab"},
		{"->abcdefgh", "-", "abcdefgh"},
		{"abcdefgh>- ->h", "d", "dh"},
		{"->a a>b", "-", "ab"},
		{"a>- ->- ->b b>-", "-", "b"},
		// Several rounds are needed.
		{"a>b ->a", "-", "ab"},
		{"a>b b>a", "a", "ab"},
		{"a>b b>a", "b", "ab"},
		{"b>c a>b", "a", "abc"},
		{"abc>d b>c a>b", "a", "abcd"},
		{"g>h f>g e>f d>e c>d b>c a>b", "a", "abcdefgh"},
		{"g>h f>g e>f d>e c>d b>c a>b", "e", "efgh"},
		{"g>h f>g e>f d>e c>d b>c a>b", "h", "h"},
		{"a>b b>c c>d d>e e>f f>g g>h", "a", "abcdefgh"},
		{"abcdefg>h abcdef>g abcde>f abcd>e abc>d ab>c a>b ->a", "-", "abcdefgh"},
		{"gh>a ef>g cd>e ab>c", "abdfh", "abcdefgh"},
		{"gh>a ef>g cd>e ab>c", "abdf", "abcdefg"},
		{"gh>a ef>g cd>e ab>c", "bdfh", "bdfh"},
		{"h>a ab>g g>h", "bh", "abgh"},
		// More than one rule, and rules with several elements, add at once.
		{"a>bc a>de", "a", "abcde"},
		{"ab>c a>cd", "a", "acd"},
		{"a>ab b>b", "a", "ab"},
	}
	for _, c := range cases {
		if got := impl.ClosedBy(rulesOf(c.rules), setOf(c.set)); got != setOf(c.want) {
			t.Errorf("ClosedBy(%s, %s) = %d, want %s", c.rules, c.set, got, c.want)
		}
	}
}

// The least set that contains s and respects the rules is what all such sets have in common.
func TestClosedByIsTheLeastSet(t *testing.T) {
	lists := shortRuleLists(2)
	for n := range 9 {
		lists = append(lists, sampleRules(n)...)
	}
	for _, rules := range lists {
		models := modelsBySearch(8, rules)
		for s := range 256 {
			want := commonOfModels(models, s)
			if got := impl.ClosedBy(rules, s); got != want {
				t.Fatalf("ClosedBy(%s, %s) = %d, want %d", textOfRules(rules), textOfSet(s), got, want)
			}
		}
	}
}

// The order of the rules and repeated ones change nothing.
func TestClosedByOfTheSameRules(t *testing.T) {
	for n := range 9 {
		for _, rules := range sampleRules(n) {
			turned := slices.Clone(rules)
			slices.Reverse(turned)
			twice := slices.Concat(rules, turned)
			for s := range 1 << n {
				want := impl.ClosedBy(rules, s)
				if got := impl.ClosedBy(turned, s); got != want {
					t.Fatalf("ClosedBy(%s, %d) = %d, want %d", textOfRules(turned), s, got, want)
				}
				if got := impl.ClosedBy(twice, s); got != want {
					t.Fatalf("ClosedBy(%s, %d) = %d, want %d", textOfRules(twice), s, got, want)
				}
			}
		}
	}
}

// The rules from all sets to what they close to give the closures of a context.
func TestClosedByOfTheRulesOfAContext(t *testing.T) {
	for _, c := range sampleContexts() {
		var rules []impl.Rule
		for s := range 1 << c.Attributes {
			rules = append(rules, rule(s, intentBySearch(c, extentBySearch(c, s))))
		}
		for s := range 1 << c.Attributes {
			if got := impl.ClosedBy(rules, s); got != rules[s].Then {
				t.Fatalf("ClosedBy of the rules of %v and of %d = %d, want %d", c, s, got, rules[s].Then)
			}
		}
	}
}

// AreRules alone has a limit on the number of rules.
func TestClosedByOfManyRules(t *testing.T) {
	for _, size := range []int{39, 40, 41, 42, 300, 5000} {
		rules := make([]impl.Rule, size)
		rules[size-1] = rule(1, 2)
		rules[size-2] = rule(3, 128)
		if got := impl.ClosedBy(rules, 1); got != 131 {
			t.Errorf("ClosedBy of %d rules = %d, want 131", size, got)
		}
		if !impl.Follows(rules, rule(1, 128)) || impl.Follows(rules, rule(2, 128)) {
			t.Errorf("Follows of %d rules is wrong", size)
		}
	}
}

func TestClosedByKeepsWhatIsRejected(t *testing.T) {
	sets := append(noSetNumbers(), 0, 1, 2, 3, 5, 128, 254, 255)
	for _, r := range wrongRules() {
		for _, rules := range append(listsWith(r), []impl.Rule{rule(0, 255), r}, []impl.Rule{r, rule(0, 255)}) {
			for _, s := range sets {
				if got := impl.ClosedBy(rules, s); got != s {
					t.Fatalf("ClosedBy(%v, %d) = %d, want the set unchanged", rules, s, got)
				}
			}
		}
	}
	for _, s := range noSetNumbers() {
		for _, rules := range [][]impl.Rule{nil, {rule(0, 0)}, {rule(0, 255)}, {rule(1, 2), rule(2, 4)}, {rule(255, 255)}} {
			if got := impl.ClosedBy(rules, s); got != s {
				t.Errorf("ClosedBy(%v, %d) = %d, want the number unchanged", rules, s, got)
			}
		}
	}
}

func TestFollows(t *testing.T) {
	cases := []struct {
		rules, rule string
		want        bool
	}{
		{"a>b bc>d", "ac>d", true},
		{"a>b bc>d", "b>a", false},
		{"a>b bc>d", "a>b", true},
		{"a>b bc>d", "a>ab", true},
		{"a>b bc>d", "a>d", false},
		{"a>b bc>d", "ac>abcd", true},
		{"a>b bc>d", "ac>abcde", false},
		{"a>b bc>d", "ace>de", true},
		// From no rules follows just what is in If already.
		{"none", "->-", true},
		{"none", "ab>a", true},
		{"none", "ab>-", true},
		{"none", "a>ab", false},
		{"none", "->a", false},
		{"none", "abcdefgh>abcdefgh", true},
		// Rules with empty sets.
		{"->-", "->-", true},
		{"->-", "->a", false},
		{"->a", "->a", true},
		{"->a", "b>a", true},
		{"->a", "a>b", false},
		{"a>-", "a>b", false},
		{"a>b", "->b", false},
		{"->a a>b", "->b", true},
		{"->a a>b", "h>ab", true},
		{"->abcdefgh", "->abcdefgh", true},
		{"a>b", "c>-", true},
		// Several rules one after the other, in any order.
		{"a>b b>c", "a>c", true},
		{"b>c a>b", "a>c", true},
		{"a>b b>c", "c>a", false},
		{"a>b c>d", "ac>bd", true},
		{"a>b a>c", "a>bc", true},
		{"a>bc", "a>b", true},
		{"a>bc", "a>d", false},
		{"g>h f>g e>f d>e c>d b>c a>b", "a>h", true},
		{"g>h f>g e>f d>e c>d b>c", "a>h", false},
		{"g>h f>g e>f c>d b>c a>b", "a>h", false},
		{"ab>c", "a>c", false},
		{"ab>c", "b>c", false},
		{"ab>c", "abh>ch", true},
	}
	for _, c := range cases {
		if got := impl.Follows(rulesOf(c.rules), ruleOf(c.rule)); got != c.want {
			t.Errorf("Follows(%s, %s) = %v", c.rules, c.rule, got)
		}
	}
}

// checkFollowing compares Follows for all rules over n attributes with the sets that respect the list.
func checkFollowing(t *testing.T, n int, rules []impl.Rule) {
	t.Helper()
	models := modelsBySearch(n, rules)
	for _, r := range rulesOver(n) {
		want := true
		for _, model := range models {
			want = want && respectsBySearch(r, model)
		}
		if got := impl.Follows(rules, r); got != want {
			t.Fatalf("Follows(%s, %s) = %v", textOfRules(rules), textOfRule(r), got)
		}
	}
}

// Promise 9.
func TestRulesFollowExactlyIfAllSetsRespectThem(t *testing.T) {
	for n := range 3 {
		for _, rules := range shortRuleLists(n) {
			checkFollowing(t, n, rules)
		}
	}
	for n := range 7 {
		for _, rules := range sampleRules(n) {
			checkFollowing(t, n, rules)
		}
	}
}

// Promise 9 as the program tells it of itself.
func TestFollowingAndRespectingAgree(t *testing.T) {
	for n := range 7 {
		all := rulesOver(n)
		for _, rules := range sampleRules(n) {
			for i := 0; i < len(all); i += 1 + len(all)/300 {
				want := true
				for s := range 1 << n {
					respected := !slices.ContainsFunc(rules, func(r impl.Rule) bool { return !impl.Respects(r, s) })
					want = want && (!respected || impl.Respects(all[i], s))
				}
				if got := impl.Follows(rules, all[i]); got != want {
					t.Fatalf("Follows(%s, %s) = %v", textOfRules(rules), textOfRule(all[i]), got)
				}
			}
		}
	}
}

func TestFollowsRejects(t *testing.T) {
	valid := []impl.Rule{rule(0, 0), rule(1, 2), rule(255, 0), rule(255, 255), rule(5, 5)}
	for _, r := range wrongRules() {
		for _, rules := range append(listsWith(r), []impl.Rule{rule(0, 255), r}, []impl.Rule{r, rule(0, 255)}) {
			for _, other := range append(slices.Clone(valid), r) {
				if impl.Follows(rules, other) {
					t.Fatalf("Follows(%v, %v) = true", rules, other)
				}
			}
		}
		for _, rules := range [][]impl.Rule{nil, {}, valid, {rule(0, 255)}, {rule(255, 255)}} {
			if impl.Follows(rules, r) {
				t.Errorf("Follows(%v, %v) = true", rules, r)
			}
		}
	}
}

func TestRuleText(t *testing.T) {
	cases := []struct {
		r    impl.Rule
		want string
	}{
		{rule(0, 0), "->-"}, {rule(0, 1), "->a"}, {rule(1, 0), "a>-"}, {rule(1, 2), "a>b"}, {rule(2, 1), "b>a"},
		{rule(6, 8), "bc>d"}, {rule(5, 5), "ac>ac"}, {rule(128, 64), "h>g"},
		{rule(255, 255), "abcdefgh>abcdefgh"}, {rule(255, 0), "abcdefgh>-"}, {rule(0, 255), "->abcdefgh"},
	}
	for _, c := range cases {
		if got := impl.RuleText(c.r); got != c.want {
			t.Errorf("RuleText(%v) = %q, want %q", c.r, got, c.want)
		}
		if got, ok := impl.ParseRule(c.want); !ok || got != c.r {
			t.Errorf("ParseRule(%q) = %v, %v, want %v, true", c.want, got, ok, c.r)
		}
	}
}

func TestRulesAreParsedFromTheirText(t *testing.T) {
	for _, r := range rulesOver(8) {
		text := textOfRule(r)
		if got := impl.RuleText(r); got != text {
			t.Fatalf("RuleText(%v) = %q, want %q", r, got, text)
		}
		if got, ok := impl.ParseRule(text); !ok || got != r {
			t.Fatalf("ParseRule(%q) = %v, %v, want %v, true", text, got, ok, r)
		}
	}
}

func TestParseRuleRejects(t *testing.T) {
	texts := []string{
		"", " ", ">", "-", "a", "ab", "none", "a>", ">a", "->", ">-", ">>", "a>>b", "a>b>", ">a>b", "a>b>c", "->->-", "a>b>c>d",
		"a<b", "a->b", "a=>b", "a-b", "a,b", "a b", "a/b", "a>b,c", "a,b>c", "a>none", "none>a", "none>none",
		" a>b", "a>b ", "a >b", "a> b", "a > b", "a>b c>d", "a\t>b", "a>b\n", "a>b\x00", "\x00a>b",
		"ba>c", "a>cb", "aa>b", "a>bb", "a->b", "-a>b", "a>-b", "a>b-", "-->a", "a>--",
		"i>a", "a>i", "A>b", "a>B", "1>2", "0>0", "a>\xff", "\xe1>b", "a\xff>b", "abcdefghi>a", "a>abcdefghi",
		strings.Repeat("a", 5000) + ">b", "a>" + strings.Repeat("b", 5000), strings.Repeat("a>", 5000), strings.Repeat(">", 5000),
	}
	for _, text := range texts {
		if got, ok := impl.ParseRule(text); ok || got != rule(0, 0) {
			t.Errorf("ParseRule(%q) = %v, %v, want the zero Rule, false", text, got, ok)
		}
	}
}

func TestParsedRulesAreThoseOfTheirTexts(t *testing.T) {
	known := map[string]impl.Rule{}
	for _, r := range rulesOver(8) {
		known[textOfRule(r)] = r
	}
	check := func(text string) {
		want, ok := known[text]
		if got, accepted := impl.ParseRule(text); accepted != ok || got != want {
			t.Errorf("ParseRule(%q) = %v, %v, want %v, %v", text, got, accepted, want, ok)
		}
	}
	for _, text := range shortTexts("abhi-> n") {
		check(text)
		check("ab>" + text)
		check(text + ">h")
		check("->" + text)
	}
}

func TestRulesText(t *testing.T) {
	cases := []struct {
		rules []impl.Rule
		want  string
	}{
		{nil, "none"},
		{[]impl.Rule{}, "none"},
		{[]impl.Rule{rule(0, 0)}, "->-"},
		{[]impl.Rule{rule(1, 2), rule(6, 8)}, "a>b bc>d"},
		{[]impl.Rule{rule(6, 8), rule(1, 2)}, "bc>d a>b"},
		{[]impl.Rule{rule(0, 5), rule(5, 0), rule(0, 0)}, "->ac ac>- ->-"},
		{[]impl.Rule{rule(1, 1), rule(1, 1), rule(1, 1)}, "a>a a>a a>a"},
		{[]impl.Rule{rule(255, 255), rule(0, 255)}, "abcdefgh>abcdefgh ->abcdefgh"},
	}
	for _, c := range cases {
		if got := impl.RulesText(c.rules); got != c.want {
			t.Errorf("RulesText(%v) = %q, want %q", c.rules, got, c.want)
		}
		if got, ok := impl.ParseRules(c.want); !ok || !sameRules(got, c.rules) {
			t.Errorf("ParseRules(%q) = %v, %v, want %v, true", c.want, got, ok, c.rules)
		}
	}
}

func TestListsOfRulesAreParsedFromTheirText(t *testing.T) {
	lists := shortRuleLists(2)
	for n := range 9 {
		lists = append(lists, sampleRules(n)...)
	}
	for _, rules := range lists {
		text := impl.RulesText(rules)
		if text != textOfRules(rules) {
			t.Errorf("RulesText(%v) = %q", rules, text)
		}
		if got, ok := impl.ParseRules(text); !ok || !sameRules(got, rules) {
			t.Errorf("ParseRules(%q) = %v, %v, want %v, true", text, got, ok, rules)
		}
	}
}

// RulesText writes lists of any length; ParseRules has a limit.
func TestTextsOfMaxRulesAndOfMore(t *testing.T) {
	for _, size := range []int{1, 2, 39, 40, 41, 42, 80, 300, 100000} {
		for _, r := range []impl.Rule{rule(0, 0), rule(1, 2), rule(255, 255)} {
			rules := slices.Repeat([]impl.Rule{r}, size)
			text := strings.Repeat(" "+textOfRule(r), size)[1:]
			if got := impl.RulesText(rules); got != text {
				t.Errorf("RulesText of %d rules %v has %d bytes, want %d", size, r, len(got), len(text))
			}
			got, ok := impl.ParseRules(text)
			if want := size <= 40; ok != want || want && !sameRules(got, rules) || !want && len(got) != 0 {
				t.Errorf("ParseRules of %d rules %v = %d rules, %v", size, r, len(got), ok)
			}
		}
	}
}

func TestTextsOfWhatIsNoRule(t *testing.T) {
	for _, r := range wrongRules() {
		if got := impl.RuleText(r); got != "" {
			t.Errorf("RuleText(%v) = %q, want an empty string", r, got)
		}
		for _, rules := range listsWith(r) {
			if got := impl.RulesText(rules); got != "" {
				t.Errorf("RulesText(%v) = %q, want an empty string", rules, got)
			}
		}
	}
}

func TestParseRulesRejects(t *testing.T) {
	texts := []string{
		"", " ", "  ", "a", "a>", ">a", ">", "-", "a>b>c", "a b", "a> b", "a >b",
		"a>b ", " a>b", "a>b  c>d", "a>b c>d ", " a>b c>d", "a>b\tc>d", "a>b\nc>d", "a>b,c>d", "a>b;c>d", "a>bc>d", "a>b c", "a>b c>", "a>b >d", "a c>d",
		"none ", " none", "None", "non", "nonee", "none none", "none a>b", "a>b none", "a>b none c>d",
		"a>i", "i>a", "ba>c", "a>aa", "a>b c>dd", "a>b dc>e c>d", "a>b c>d\x00", "a>b \xff>c",
		strings.Repeat("a>b ", 40), strings.Repeat("a>b ", 39) + "a>", strings.Repeat(" a>b", 40), strings.Repeat(" ", 39), strings.Repeat(" ", 5000), strings.Repeat("a>b", 5000),
	}
	for _, text := range texts {
		if got, ok := impl.ParseRules(text); ok || len(got) != 0 {
			t.Errorf("ParseRules(%q) = %v, %v, want nil, false", text, got, ok)
		}
	}
}

func TestParsedListsAreThoseOfTheirTexts(t *testing.T) {
	known := map[string][]impl.Rule{}
	for _, rules := range shortRuleLists(2) {
		known[textOfRules(rules)] = rules
	}
	check := func(text string) {
		want, ok := known[text]
		if got, accepted := impl.ParseRules(text); accepted != ok || !sameRules(got, want) {
			t.Errorf("ParseRules(%q) = %v, %v, want %v, %v", text, got, accepted, want, ok)
		}
	}
	for _, text := range shortTexts("ab-> ,") {
		check(text)
		for _, start := range []string{"a>b", "a>b ", "->", "ab>ab", "-> ", "none", "none "} {
			check(start + text)
			check(text + start)
		}
	}
}

// One byte that is missing, in excess or another one makes the text of another list or of none.
func TestTextsNextToThoseOfRules(t *testing.T) {
	for _, text := range []string{"none", "a>b bc>d", "->-", "abcdefgh>abcdefgh", "->a a>- ab>ab h>g"} {
		for i := range len(text) + 1 {
			for b := range 256 {
				near := []string{text[:i] + string([]byte{byte(b)}) + text[i:]}
				if i < len(text) {
					near = append(near, text[:i]+text[i+1:], text[:i]+string([]byte{byte(b)})+text[i+1:])
				}
				for _, other := range near {
					rules, ok := impl.ParseRules(other)
					if ok && textOfRules(rules) != other || !ok && len(rules) != 0 {
						t.Errorf("ParseRules(%q) = %v, %v", other, rules, ok)
					}
					r, ok := impl.ParseRule(other)
					if ok && textOfRule(r) != other || !ok && r != rule(0, 0) {
						t.Errorf("ParseRule(%q) = %v, %v", other, r, ok)
					}
				}
			}
		}
	}
}

// Promise 31 for chapter 9; the rules behind those of the list are no part of it.
func TestRuleFunctionsKeepTheirRules(t *testing.T) {
	kept := []impl.Rule{rule(2, 4), rule(1, 2), rule(0, 0), rule(4, 1), rule(1, 2), rule(0, 8), rule(-1, 300)}
	for size := range len(kept) + 1 {
		list := slices.Clone(kept)
		rules := list[:size]
		impl.AreRules(4, rules)
		impl.RulesText(rules)
		for s := -1; s <= 256; s++ {
			impl.ClosedBy(rules, s)
			impl.Follows(rules, rule(s, 8))
		}
		if !sameRules(list, kept) {
			t.Errorf("a list of %d rules is changed to %v", size, list)
		}
	}
	rows := []int{3, 2, 6, 12, 1, 9, -1}
	want := slices.Clone(rows)
	for size := range len(rows) + 1 {
		for _, r := range rulesOver(4) {
			impl.HoldsIn(context(4, rows[:size]...), r)
		}
	}
	if !slices.Equal(rows, want) {
		t.Errorf("the rows are changed to %v", rows)
	}
}

// Promise 31 for chapter 9.
func TestParsedRulesAreNewEachTime(t *testing.T) {
	want := []impl.Rule{rule(1, 2), rule(6, 8), rule(0, 0)}
	for range 3 {
		rules, ok := impl.ParseRules("a>b bc>d ->-")
		if !ok || !sameRules(rules, want) {
			t.Fatalf("ParseRules = %v, %v, want %v, true", rules, ok, want)
		}
		all := rules[:cap(rules)]
		for i := range all {
			all[i] = rule(-1, 99)
		}
		none, ok := impl.ParseRules("none")
		if !ok || len(none) != 0 {
			t.Fatalf("ParseRules(none) = %v, %v", none, ok)
		}
		_ = append(none, rule(-1, 99))
	}
}

// Promise 31 for chapter 9: no numbers are too great.
func TestRuleFunctionsAreTotal(t *testing.T) {
	numbers := []int{math.MinInt, math.MinInt + 1, -1 << 32, -256, -1, 0, 1, 63, 255, 256, 1 << 32, 1<<63 - 2, math.MaxInt}
	valid := func(s int) bool { return s >= 0 && s <= 255 }
	for _, from := range numbers {
		for _, to := range numbers {
			r := rule(from, to)
			ok := valid(from) && valid(to)
			if (impl.RuleText(r) != "") != ok || (impl.RulesText([]impl.Rule{r}) != "") != ok {
				t.Errorf("RuleText(%v) = %q", r, impl.RuleText(r))
			}
			for _, s := range numbers {
				if impl.Respects(r, s) && !(ok && valid(s)) {
					t.Errorf("Respects(%v, %d) = true", r, s)
				}
				if got := impl.ClosedBy([]impl.Rule{r}, s); got != s && !(ok && valid(s)) {
					t.Errorf("ClosedBy(%v, %d) = %d", r, s, got)
				}
				if impl.AreRules(s, []impl.Rule{r}) && !(ok && valid(s) && s <= 6) {
					t.Errorf("AreRules(%d, %v) = true", s, r)
				}
				if impl.HoldsIn(context(s, 0), r) && s != 0 && s != 1 {
					t.Errorf("HoldsIn of %d attributes and %v = true", s, r)
				}
			}
		}
	}
}
