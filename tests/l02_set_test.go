package tests

import (
	"math"
	"slices"
	"strings"
	"testing"

	"loop.example/g00596/impl"
)

const allSets = 256

// noSetNumbers lists numbers that are no sets, some of which have the low bits of one.
func noSetNumbers() []int {
	return []int{-1, -2, -7, -255, -256, -257, 256, 257, 300, 511, 512, 1 << 32, 1<<32 + 5, 1 << 62, math.MaxInt, math.MinInt, math.MinInt + 1}
}

// noSizes lists numbers of elements below 0 and above MaxSize.
func noSizes() []int {
	return []int{-1, -2, -8, -64, 9, 10, 62, 63, 64, 65, 128, 1 << 32, math.MaxInt, math.MinInt}
}

// membersOf divides instead of shifting, so that it shares no mistake with the program.
func membersOf(s int) [8]bool {
	var members [8]bool
	for e := range members {
		members[e] = s%2 == 1
		s /= 2
	}
	return members
}

// setOfMembers undoes membersOf.
func setOfMembers(members [8]bool) int {
	s, power := 0, 1
	for _, in := range members {
		if in {
			s += power
		}
		power *= 2
	}
	return s
}

func comesBefore(s, t int) bool {
	in, of := membersOf(s), membersOf(t)
	for e := range in {
		if in[e] != of[e] {
			return of[e]
		}
	}
	return false
}

func TestMaxSize(t *testing.T) {
	if impl.MaxSize != 8 {
		t.Errorf("MaxSize = %d, want 8", impl.MaxSize)
	}
}

func TestIsSet(t *testing.T) {
	power := 1
	for n := 0; n <= 8; n++ {
		for s := -3; s <= 300; s++ {
			if got, want := impl.IsSet(n, s), s >= 0 && s < power; got != want {
				t.Errorf("IsSet(%d, %d) = %v, want %v", n, s, got, want)
			}
		}
		for _, s := range noSetNumbers() {
			if impl.IsSet(n, s) {
				t.Errorf("IsSet(%d, %d) = true", n, s)
			}
		}
		power *= 2
	}
	for _, n := range noSizes() {
		for _, s := range append(noSetNumbers(), 0, 1, 2, 127, 128, 255) {
			if impl.IsSet(n, s) {
				t.Errorf("IsSet(%d, %d) = true", n, s)
			}
		}
	}
}

func TestFullSet(t *testing.T) {
	for n, want := range []int{0, 1, 3, 7, 15, 31, 63, 127, 255} {
		if got := impl.FullSet(n); got != want {
			t.Errorf("FullSet(%d) = %d, want %d", n, got, want)
		}
	}
	for _, n := range noSizes() {
		if got := impl.FullSet(n); got != 0 {
			t.Errorf("FullSet(%d) = %d, want 0", n, got)
		}
	}
}

func TestElementsOfEverySet(t *testing.T) {
	for s := range allSets {
		var want []int
		for e, in := range membersOf(s) {
			if impl.HasElement(s, e) != in {
				t.Errorf("HasElement(%d, %d) = %v", s, e, !in)
			}
			if in {
				want = append(want, e)
			}
		}
		for _, e := range []int{-1, -2, -8, -64, 8, 9, 63, 64, 1 << 32, math.MaxInt, math.MinInt} {
			if impl.HasElement(s, e) {
				t.Errorf("HasElement(%d, %d) = true", s, e)
			}
		}
		if got := impl.ElementsOf(s); !slices.Equal(got, want) {
			t.Errorf("ElementsOf(%d) = %v, want %v", s, got, want)
		}
		if got := impl.CountOf(s); got != len(want) {
			t.Errorf("CountOf(%d) = %d, want %d", s, got, len(want))
		}
	}
}

func TestNumbersThatAreNoSets(t *testing.T) {
	for _, s := range noSetNumbers() {
		for e := -2; e <= 66; e++ {
			if impl.HasElement(s, e) {
				t.Errorf("HasElement(%d, %d) = true", s, e)
			}
		}
		if got := impl.CountOf(s); got != 0 {
			t.Errorf("CountOf(%d) = %d, want 0", s, got)
		}
		if got := impl.ElementsOf(s); got != nil {
			t.Errorf("ElementsOf(%d) = %v, want nil", s, got)
		}
		if got := impl.SetText(s); got != "" {
			t.Errorf("SetText(%d) = %q, want an empty string", s, got)
		}
		for other := range allSets {
			if impl.IsSubset(s, other) || impl.IsSubset(other, s) {
				t.Errorf("IsSubset of %d and %d = true", s, other)
			}
			if impl.BeforeSet(s, other) || impl.BeforeSet(other, s) {
				t.Errorf("BeforeSet of %d and %d = true", s, other)
			}
		}
		for _, other := range noSetNumbers() {
			if impl.IsSubset(s, other) || impl.BeforeSet(s, other) {
				t.Errorf("IsSubset or BeforeSet of %d and %d = true", s, other)
			}
		}
	}
}

func TestIsSubset(t *testing.T) {
	for s := range allSets {
		for u := range allSets {
			want := true
			of := membersOf(u)
			for e, in := range membersOf(s) {
				want = want && (!in || of[e])
			}
			if got := impl.IsSubset(s, u); got != want {
				t.Errorf("IsSubset(%d, %d) = %v", s, u, got)
			}
		}
	}
}

func TestBeforeSet(t *testing.T) {
	cases := []struct {
		s, u int
		want bool
	}{
		{0, 0, false}, {255, 255, false}, {3, 3, false},
		{0, 1, true}, {1, 0, false}, {0, 128, true}, {0, 255, true},
		{12, 2, true}, {2, 12, false}, {4, 12, true}, {12, 4, false},
		{254, 1, true}, {1, 254, false}, {128, 64, true}, {254, 255, true},
	}
	for _, c := range cases {
		if got := impl.BeforeSet(c.s, c.u); got != c.want {
			t.Errorf("BeforeSet(%d, %d) = %v, want %v", c.s, c.u, got, c.want)
		}
	}
	for s := range allSets {
		for u := range allSets {
			if got := impl.BeforeSet(s, u); got != comesBefore(s, u) {
				t.Errorf("BeforeSet(%d, %d) = %v", s, u, got)
			}
			if s != u && impl.IsSubset(s, u) && !impl.BeforeSet(s, u) {
				t.Errorf("%d is a proper subset of %d, but not before it", s, u)
			}
		}
	}
}

func TestSortLectic(t *testing.T) {
	cases := []struct{ list, want []int }{
		{nil, nil},
		{[]int{}, nil},
		{[]int{0}, []int{0}},
		{[]int{255}, []int{255}},
		{[]int{5, 5, 5}, []int{5}},
		{[]int{0, 0}, []int{0}},
		{[]int{1, 2, 4, 8}, []int{8, 4, 2, 1}},
		{[]int{8, 4, 2, 1}, []int{8, 4, 2, 1}},
		{[]int{1, 2, 4, 12, 0, 2}, []int{0, 4, 12, 2, 1}},
		{[]int{7, 6, 5, 4, 3, 2, 1, 0}, []int{0, 4, 2, 6, 1, 5, 3, 7}},
		{[]int{255, 0, 255, 0, 128, 255}, []int{0, 128, 255}},
	}
	for _, c := range cases {
		if got := impl.SortLectic(c.list); !slices.Equal(got, c.want) {
			t.Errorf("SortLectic(%v) = %v, want %v", c.list, got, c.want)
		}
	}
}

func TestSortLecticOfAllSets(t *testing.T) {
	var list []int
	for i := range 3 * allSets {
		list = append(list, i*77%allSets)
	}
	sorted := impl.SortLectic(list)
	if len(sorted) != allSets {
		t.Fatalf("%d sets, want %d", len(sorted), allSets)
	}
	for i := 1; i < len(sorted); i++ {
		if !comesBefore(sorted[i-1], sorted[i]) {
			t.Errorf("%d stands before %d", sorted[i-1], sorted[i])
		}
	}
	if got := impl.SortLectic(sorted); !slices.Equal(got, sorted) {
		t.Errorf("sorting again changes the order to %v", got)
	}
}

func TestListsWithNumbersThatAreNoSets(t *testing.T) {
	for _, s := range noSetNumbers() {
		for _, list := range [][]int{{s}, {s, s}, {s, 1, 2}, {2, s, 1}, {2, 1, 0, s}} {
			if got := impl.SortLectic(list); got != nil {
				t.Errorf("SortLectic(%v) = %v, want nil", list, got)
			}
			if got := impl.SetsText(list); got != "" {
				t.Errorf("SetsText(%v) = %q, want an empty string", list, got)
			}
		}
	}
}

func TestSetText(t *testing.T) {
	cases := []struct {
		s    int
		want string
	}{
		{0, "-"}, {1, "a"}, {2, "b"}, {4, "c"}, {8, "d"}, {16, "e"}, {32, "f"}, {64, "g"}, {128, "h"},
		{3, "ab"}, {10, "bd"}, {129, "ah"}, {254, "bcdefgh"}, {255, "abcdefgh"},
	}
	for _, c := range cases {
		if got := impl.SetText(c.s); got != c.want {
			t.Errorf("SetText(%d) = %q, want %q", c.s, got, c.want)
		}
		if got, ok := impl.ParseSet(c.want); !ok || got != c.s {
			t.Errorf("ParseSet(%q) = %d, %v, want %d, true", c.want, got, ok, c.s)
		}
	}
}

func TestSetsAreParsedFromTheirText(t *testing.T) {
	seen := map[string]bool{}
	for s := range allSets {
		text := impl.SetText(s)
		if seen[text] {
			t.Errorf("%q is the text of two sets", text)
		}
		seen[text] = true
		if got, ok := impl.ParseSet(text); !ok || got != s {
			t.Errorf("ParseSet(SetText(%d)) = %d, %v", s, got, ok)
		}
	}
}

func TestParseSetRejects(t *testing.T) {
	texts := []string{
		"", "ba", "aa", "i", "a-", "-a", "--", "a-b", "-ab",
		"abca", "hgfedcba", "acb", "aab", "abb", "abcdefghi", "abcdefgha", "`", "{", "ai", "z",
		"A", "AB", "aB", "a b", " a", "a ", " ", "- ", " -", "a,b", "a\n", "\na", "none", "0", "1",
		"\x00", "a\x00", "\xff", "a\xff", "\xe1", "\xc3\xa1", "\xef\xbd\x81", "\xe2\x88\x92", "\xc2\xad",
		strings.Repeat("a", 256), strings.Repeat("a", 257), strings.Repeat("abcdefgh", 1000), strings.Repeat("-", 1000),
	}
	for _, text := range texts {
		if got, ok := impl.ParseSet(text); ok || got != 0 {
			t.Errorf("ParseSet(%q) = %d, %v, want 0, false", text, got, ok)
		}
	}
}

// Every text of at most four of these bytes is accepted exactly if it is the text of a set.
func TestParsedTextsAreTheirSetsTexts(t *testing.T) {
	known := map[string]int{}
	for s := range allSets {
		known[impl.SetText(s)] = s
	}
	texts := shortTexts("abdhi-`\x00")
	for b := range 256 {
		texts = append(texts, string([]byte{byte(b)}), string([]byte{'c', byte(b)}), string([]byte{byte(b), 'c'}))
	}
	for _, text := range texts {
		want, ok := known[text]
		if got, accepted := impl.ParseSet(text); accepted != ok || got != want {
			t.Errorf("ParseSet(%q) = %d, %v, want %d, %v", text, got, accepted, want, ok)
		}
	}
}

func TestSetsText(t *testing.T) {
	cases := []struct {
		list []int
		want string
	}{
		{nil, "none"},
		{[]int{}, "none"},
		{[]int{0}, "-"},
		{[]int{0, 0}, "-,-"},
		{[]int{10}, "bd"},
		{[]int{1, 2, 4}, "a,b,c"},
		{[]int{4, 2, 4, 0}, "c,b,c,-"},
		{[]int{3, 6, 5}, "ab,bc,ac"},
		{[]int{255, 128}, "abcdefgh,h"},
	}
	for _, c := range cases {
		if got := impl.SetsText(c.list); got != c.want {
			t.Errorf("SetsText(%v) = %q, want %q", c.list, got, c.want)
		}
	}
}

// The limit of Join is none of SetsText.
func TestSetsTextOfALongList(t *testing.T) {
	list := slices.Repeat([]int{255}, 200000)
	if got, want := len(impl.SetsText(list)), 9*len(list)-1; got != want {
		t.Errorf("%d bytes, want %d", got, want)
	}
}

// Promise 31 for chapter 2.
func TestSetFunctionsKeepTheirLists(t *testing.T) {
	kept := []int{1, 2, 4, 12, 0, 2, 256, 255}
	for size := range len(kept) + 1 {
		list := slices.Clone(kept)
		impl.SortLectic(list[:size])
		impl.SetsText(list[:size])
		if !slices.Equal(list, kept) {
			t.Errorf("a list of %d elements is changed to %v", size, list)
		}
	}
}

func TestSetFunctionsReturnNewSlices(t *testing.T) {
	list := []int{8, 4, 2, 1}
	first, second := impl.SortLectic(list), impl.SortLectic(list)
	first[0] = 99
	if list[0] != 8 || second[0] != 8 {
		t.Errorf("a result of SortLectic shares memory: %v, %v", list, second)
	}
	elements, again := impl.ElementsOf(255), impl.ElementsOf(255)
	elements[0] = 99
	if again[0] != 0 || impl.ElementsOf(255)[0] != 0 {
		t.Errorf("two results of ElementsOf share memory: %v", again)
	}
}
