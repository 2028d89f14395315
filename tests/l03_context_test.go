package tests

import (
	"math"
	"slices"
	"strconv"
	"strings"
	"testing"

	"loop.example/g00596/impl"
)

func context(n int, rows ...int) impl.Context {
	return impl.Context{Attributes: n, Rows: rows}
}

// isZeroContext tells what comes together with false.
func isZeroContext(c impl.Context) bool {
	return c.Attributes == 0 && len(c.Rows) == 0
}

func sameContext(a, b impl.Context) bool {
	return a.Attributes == b.Attributes && slices.Equal(a.Rows, b.Rows)
}

// noContexts lists values that break one of the conditions of a context, or several.
func noContexts() []impl.Context {
	var list []impl.Context
	for _, n := range append(noSizes(), 7, 8) {
		list = append(list, context(n), context(n, 0), context(n, 0, 1), context(n, 1, 2, 3))
	}
	for n := range 7 {
		power := 1 << n
		for _, row := range append(noSetNumbers(), power, power+1, 2*power, 64, 128, 255) {
			list = append(list, context(n, row), context(n, 0, row), context(n, row, 0), context(n, 0, 0, 0, 0, 0, 0, 0, row))
		}
		list = append(list, context(n, make([]int, 9)...), context(n, make([]int, 10)...), context(n, make([]int, 300)...))
	}
	return list
}

// textOfContext writes a context without the program's help.
func textOfContext(c impl.Context) string {
	var parts []string
	for _, row := range c.Rows {
		part := ""
		for e, in := range membersOf(row) {
			if in {
				part += string(rune('a' + e))
			}
		}
		if part == "" {
			part = "-"
		}
		parts = append(parts, part)
	}
	list := strings.Join(parts, ",")
	if len(parts) == 0 {
		list = "none"
	}
	return strconv.Itoa(c.Attributes) + " " + list
}

// smallContexts returns all contexts of n attributes with at most two objects.
func smallContexts(n int) []impl.Context {
	list := []impl.Context{context(n)}
	for row := range 1 << n {
		list = append(list, context(n, row))
		for second := range 1 << n {
			list = append(list, context(n, row, second))
		}
	}
	return list
}

func TestLimitsOfContexts(t *testing.T) {
	if impl.MaxObjects != 8 || impl.MaxAttributes != 6 {
		t.Errorf("MaxObjects = %d, MaxAttributes = %d, want 8 and 6", impl.MaxObjects, impl.MaxAttributes)
	}
}

func TestIsContext(t *testing.T) {
	for _, c := range sampleContexts() {
		if !impl.IsContext(c) {
			t.Errorf("IsContext(%v) = false", c)
		}
	}
	for n := range 7 {
		for row := -70; row <= 300; row++ {
			want := row >= 0 && row < 1<<n
			if got := impl.IsContext(context(n, row)); got != want {
				t.Errorf("IsContext of %d attributes and the row %d = %v", n, row, got)
			}
		}
		for objects := range 20 {
			if got := impl.IsContext(context(n, make([]int, objects)...)); got != (objects <= 8) {
				t.Errorf("IsContext of %d attributes and %d objects = %v", n, objects, got)
			}
		}
	}
	for _, c := range noContexts() {
		if impl.IsContext(c) {
			t.Errorf("IsContext(%v) = true", c)
		}
	}
}

func TestObjectCount(t *testing.T) {
	cases := []struct {
		c    impl.Context
		want int
	}{
		{impl.Context{}, 0},
		{context(3), 0},
		{impl.Context{Attributes: 3, Rows: []int{}}, 0},
		{context(0, 0), 1},
		{context(3, 3, 6, 5), 3},
		{context(6, make([]int, 8)...), 8},
		{context(6, make([]int, 9)...), 9},
		{context(-1, 1, 2), 2},
		{context(7), 0},
		{context(1, 5, -1), 2},
	}
	for _, c := range cases {
		if got := impl.ObjectCount(c.c); got != c.want {
			t.Errorf("ObjectCount(%v) = %d, want %d", c.c, got, c.want)
		}
	}
}

func TestColumnOf(t *testing.T) {
	cases := []struct {
		c    impl.Context
		m    int
		want int
	}{
		{context(3, 3, 2), 0, 1},
		{context(3, 3, 2), 1, 3},
		{context(3, 3, 2), 2, 0},
		{context(3), 0, 0},
		{context(0, 0), 0, 0},
		{context(6, 32, 0, 0, 0, 0, 0, 0, 63), 5, 129},
		{context(6, 63, 63, 63, 63, 63, 63, 63, 63), 0, 255},
	}
	for _, c := range cases {
		if got := impl.ColumnOf(c.c, c.m); got != c.want {
			t.Errorf("ColumnOf(%v, %d) = %d, want %d", c.c, c.m, got, c.want)
		}
	}
}

func TestColumnsHoldWhatTheRowsHold(t *testing.T) {
	for _, c := range sampleContexts() {
		for m := range c.Attributes {
			column := impl.ColumnOf(c, m)
			if column < 0 || column >= 1<<len(c.Rows) {
				t.Fatalf("ColumnOf(%v, %d) = %d", c, m, column)
			}
			in := membersOf(column)
			for g, row := range c.Rows {
				if in[g] != membersOf(row)[m] {
					t.Errorf("ColumnOf(%v, %d) = %d", c, m, column)
				}
			}
		}
	}
}

func TestColumnsThatDoNotExist(t *testing.T) {
	for n := range 7 {
		c := context(n, 1<<n-1, 0, 1<<n-1)
		for _, m := range []int{-1, -2, -64, n, n + 1, 6, 7, 8, 63, 64, 1 << 32, math.MaxInt, math.MinInt} {
			if got := impl.ColumnOf(c, m); got != 0 {
				t.Errorf("ColumnOf(%v, %d) = %d, want 0", c, m, got)
			}
		}
	}
	for _, c := range noContexts() {
		for m := -1; m <= 8; m++ {
			if got := impl.ColumnOf(c, m); got != 0 {
				t.Errorf("ColumnOf(%v, %d) = %d, want 0", c, m, got)
			}
		}
	}
	if got := impl.ColumnOf(context(2, 3, 3, 4), 0); got != 0 {
		t.Errorf("the column of a value with a row beyond its attributes is %d, want 0", got)
	}
}

func TestDualContext(t *testing.T) {
	cases := []struct{ c, want impl.Context }{
		{context(3, 3, 2), context(2, 1, 3, 0)},
		{context(3, 3, 6, 5), context(3, 5, 3, 6)},
		{context(0), context(0)},
		{context(2), context(0, 0, 0)},
		{context(6), context(0, 0, 0, 0, 0, 0, 0)},
		{context(0, 0, 0), context(2)},
		{context(0, 0, 0, 0, 0, 0, 0), context(6)},
		{context(1, 1, 0, 1, 0, 0, 1), context(6, 37)},
		{context(6, 1, 2, 4, 8, 16, 32), context(6, 1, 2, 4, 8, 16, 32)},
		{context(6, 63, 62, 60, 56, 48, 32), context(6, 1, 3, 7, 15, 31, 63)},
	}
	for _, c := range cases {
		if got, ok := impl.DualContext(c.c); !ok || !sameContext(got, c.want) {
			t.Errorf("DualContext(%v) = %v, %v, want %v, true", c.c, got, ok, c.want)
		}
	}
}

func TestDualOfTheDual(t *testing.T) {
	for _, c := range sampleContexts() {
		dual, ok := impl.DualContext(c)
		if len(c.Rows) > 6 {
			if ok || !isZeroContext(dual) {
				t.Errorf("DualContext(%v) = %v, %v, want the zero Context, false", c, dual, ok)
			}
			continue
		}
		if !ok || !impl.IsContext(dual) || dual.Attributes != len(c.Rows) || len(dual.Rows) != c.Attributes {
			t.Fatalf("DualContext(%v) = %v, %v", c, dual, ok)
		}
		if again, ok := impl.DualContext(dual); !ok || !sameContext(again, c) {
			t.Errorf("the dual of the dual of %v = %v, %v", c, again, ok)
		}
	}
}

func TestDualOfSevenAndEightObjects(t *testing.T) {
	for n := range 7 {
		for _, objects := range []int{7, 8} {
			if got, ok := impl.DualContext(context(n, make([]int, objects)...)); ok || !isZeroContext(got) {
				t.Errorf("the dual of %d objects = %v, %v, want the zero Context, false", objects, got, ok)
			}
		}
	}
}

func TestComplementContext(t *testing.T) {
	cases := []struct{ c, want impl.Context }{
		{context(3, 3, 2), context(3, 4, 5)},
		{context(3, 3, 6, 5), context(3, 4, 1, 2)},
		{context(0), context(0)},
		{context(0, 0, 0), context(0, 0, 0)},
		{context(2), context(2)},
		{context(6, 63, 0), context(6, 0, 63)},
		{context(1, 0, 0, 0, 0, 0, 0, 0, 1), context(1, 1, 1, 1, 1, 1, 1, 1, 0)},
	}
	for _, c := range cases {
		if got, ok := impl.ComplementContext(c.c); !ok || !sameContext(got, c.want) {
			t.Errorf("ComplementContext(%v) = %v, %v, want %v, true", c.c, got, ok, c.want)
		}
	}
}

func TestComplementHoldsWhatIsMissing(t *testing.T) {
	for _, c := range sampleContexts() {
		got, ok := impl.ComplementContext(c)
		if !ok || got.Attributes != c.Attributes || len(got.Rows) != len(c.Rows) {
			t.Fatalf("ComplementContext(%v) = %v, %v", c, got, ok)
		}
		for g, row := range c.Rows {
			if row+got.Rows[g] != 1<<c.Attributes-1 {
				t.Errorf("ComplementContext(%v) = %v", c, got)
			}
		}
		if again, ok := impl.ComplementContext(got); !ok || !sameContext(again, c) {
			t.Errorf("the complement of the complement of %v = %v, %v", c, again, ok)
		}
	}
}

func TestValuesThatAreNoContexts(t *testing.T) {
	for _, c := range noContexts() {
		if got, ok := impl.DualContext(c); ok || !isZeroContext(got) {
			t.Errorf("DualContext(%v) = %v, %v, want the zero Context, false", c, got, ok)
		}
		if got, ok := impl.ComplementContext(c); ok || !isZeroContext(got) {
			t.Errorf("ComplementContext(%v) = %v, %v, want the zero Context, false", c, got, ok)
		}
		if got := impl.ContextText(c); got != "" {
			t.Errorf("ContextText(%v) = %q, want an empty string", c, got)
		}
	}
}

func TestEqualContext(t *testing.T) {
	cases := []struct {
		a, b impl.Context
		want bool
	}{
		{impl.Context{}, impl.Context{}, true},
		{context(3), impl.Context{Attributes: 3, Rows: []int{}}, true},
		{context(3), context(2), false},
		{context(3, 1, 2), context(3, 1, 2), true},
		{context(3, 1, 2), context(4, 1, 2), false},
		{context(3, 1, 2), context(3, 2, 1), false},
		{context(3, 1, 2), context(3, 1), false},
		{context(3, 1, 2), context(3, 1, 3), false},
		{context(3, 1, 2), context(3, 1, 2, 2), false},
		{context(3), context(3, 0), false},
		{context(0, 0), context(0), false},
		{context(-1, 700), context(-1, 700), true},
		{context(9, -5), context(9, -4), false},
		{context(1, make([]int, 9)...), context(1, make([]int, 9)...), true},
	}
	for _, c := range cases {
		if impl.EqualContext(c.a, c.b) != c.want || impl.EqualContext(c.b, c.a) != c.want {
			t.Errorf("EqualContext of %v and %v is not %v", c.a, c.b, c.want)
		}
	}
	list := append(noContexts(), context(0), context(1), context(2, 3), context(2, 3, 0))
	for i, a := range list {
		for k, b := range list {
			if i < 40 || k < 40 {
				if got := impl.EqualContext(a, b); got != sameContext(a, b) {
					t.Errorf("EqualContext(%v, %v) = %v", a, b, got)
				}
			}
		}
	}
}

func TestContextText(t *testing.T) {
	cases := []struct {
		c    impl.Context
		want string
	}{
		{context(0), "0 none"},
		{context(2), "2 none"},
		{context(6), "6 none"},
		{impl.Context{Attributes: 2, Rows: []int{}}, "2 none"},
		{context(0, 0), "0 -"},
		{context(0, 0, 0), "0 -,-"},
		{context(3, 3, 6, 5), "3 ab,bc,ac"},
		{context(1, 1, 0, 1), "1 a,-,a"},
		{context(6, 63, 0), "6 abcdef,-"},
		{context(6, 32, 32, 32, 32, 32, 32, 32, 1), "6 f,f,f,f,f,f,f,a"},
	}
	for _, c := range cases {
		if got := impl.ContextText(c.c); got != c.want {
			t.Errorf("ContextText(%v) = %q, want %q", c.c, got, c.want)
		}
		if got, ok := impl.ParseContext(c.want); !ok || !sameContext(got, c.c) {
			t.Errorf("ParseContext(%q) = %v, %v, want %v, true", c.want, got, ok, c.c)
		}
	}
}

func TestContextsAreParsedFromTheirText(t *testing.T) {
	list := sampleContexts()
	for n := range 5 {
		list = append(list, smallContexts(n)...)
	}
	for _, c := range list {
		text := impl.ContextText(c)
		if text != textOfContext(c) {
			t.Errorf("ContextText(%v) = %q", c, text)
		}
		if got, ok := impl.ParseContext(text); !ok || !sameContext(got, c) {
			t.Errorf("ParseContext(%q) = %v, %v, want %v, true", text, got, ok, c)
		}
	}
}

func TestParseContextRejects(t *testing.T) {
	texts := []string{
		"", " ", "3", "3 ", " none", " a", "none", "a", "ab,bc", "3none", "3a",
		"03 none", "00 none", "+3 none", "-0 none", "-1 none", "3. none", "0x3 none", "a none", "\xd9\xa3 none", "3\x00 none",
		"7 none", "7 a", "7 -", "8 none", "9 none", "9 a", "10 a", "64 none", "1000000 none", "999999999999 a",
		"4294967298 a", "18446744073709551618 a",
		"3 a,", "3 ,a", "3 ,", "3 a,,b", "3 a, b", "3 a b", "3 a ", "3  a", " 3 a", "3  none", "3 none ", "3\ta", "3,a", "3\na",
		"2 c", "2 abc", "2 a,c", "2 c,a", "0 a", "1 b", "6 g", "6 h", "6 abcdefg", "2 ba", "2 aa", "2 a,ba", "2 a-", "2 -a", "2 --",
		"3 A", "3 i", "3 z", "3 a;b", "3 a.b", "3 a,\xff", "3 \xe1", "3 a\n", "3 a\x00", "3 0", "3 1,2",
		"3 none,a", "3 a,none", "3 none,none", "3 None", "3 non", "3 nonee", "3 -,none",
		"1 a,a,a,a,a,a,a,a,a", "0 -,-,-,-,-,-,-,-,-", "6 a,b,c,d,e,f,ab,bc,cd", "2 a,a,a,a,a,a,a,a,",
		"1 " + strings.Repeat("a,", 5000) + "a", "1 " + strings.Repeat("a", 5000), strings.Repeat("3", 5000) + " a", strings.Repeat("3 ", 5000),
	}
	for _, text := range texts {
		if got, ok := impl.ParseContext(text); ok || !isZeroContext(got) {
			t.Errorf("ParseContext(%q) = %v, %v, want the zero Context, false", text, got, ok)
		}
	}
}

func TestParseContextUpToEightObjects(t *testing.T) {
	for n := range 7 {
		for objects := range 12 {
			c := context(n, make([]int, objects)...)
			got, ok := impl.ParseContext(textOfContext(c))
			if want := objects <= 8; ok != want || want && !sameContext(got, c) || !want && !isZeroContext(got) {
				t.Errorf("ParseContext of %d attributes and %d objects = %v, %v", n, objects, got, ok)
			}
		}
	}
}

// checkParsed compares ParseContext with the texts that are known to be those of contexts.
func checkParsed(t *testing.T, known map[string]impl.Context, text string) {
	t.Helper()
	want, ok := known[text]
	if got, accepted := impl.ParseContext(text); accepted != ok || !sameContext(got, want) {
		t.Errorf("ParseContext(%q) = %v, %v, want %v, %v", text, got, accepted, want, ok)
	}
}

// Every text that is a number, a space and at most four of these bytes is accepted exactly if it is the text of a context.
func TestParsedTextsAreTheirContextsTexts(t *testing.T) {
	known := map[string]impl.Context{}
	for n := range 7 {
		for _, c := range smallContexts(n) {
			known[textOfContext(c)] = c
		}
	}
	for _, text := range shortTexts("0267a-, ") {
		checkParsed(t, known, text)
	}
	for _, start := range []string{"0 ", "1 ", "2 ", "6 ", "7 ", "02 ", "-1 "} {
		for _, list := range shortTexts("abfg-, n") {
			checkParsed(t, known, start+list)
		}
	}
}

// One byte that is missing, in excess or another one makes the text of another context or of none.
func TestTextsNextToThoseOfContexts(t *testing.T) {
	for _, text := range []string{"3 ab,bc,ac", "0 -", "2 none", "6 abcdef,-", "1 a,-,a,a,a,a,a,a"} {
		for i := range len(text) + 1 {
			for b := range 256 {
				near := []string{text[:i] + string([]byte{byte(b)}) + text[i:]}
				if i < len(text) {
					near = append(near, text[:i]+text[i+1:], text[:i]+string([]byte{byte(b)})+text[i+1:])
				}
				for _, other := range near {
					c, ok := impl.ParseContext(other)
					if ok && textOfContext(c) != other || ok && !impl.IsContext(c) || !ok && !isZeroContext(c) {
						t.Errorf("ParseContext(%q) = %v, %v", other, c, ok)
					}
				}
			}
		}
	}
}

// Promise 31 for chapter 3.
func TestContextFunctionsKeepTheirRows(t *testing.T) {
	kept := []int{3, 6, 5, 0, 7, 1, 2, 4, 3, 9, -1}
	for size := range len(kept) + 1 {
		rows := slices.Clone(kept)
		c := context(3, rows[:size]...)
		impl.IsContext(c)
		impl.ObjectCount(c)
		impl.ColumnOf(c, 1)
		impl.DualContext(c)
		impl.ComplementContext(c)
		impl.EqualContext(c, context(3, rows...))
		impl.ContextText(c)
		if !slices.Equal(rows, kept) {
			t.Errorf("the rows of a context of %d objects are changed to %v", size, rows)
		}
	}
}

func TestContextFunctionsReturnNewRows(t *testing.T) {
	c := context(3, 1, 2, 4)
	results := func() []impl.Context {
		dual, _ := impl.DualContext(c)
		complement, _ := impl.ComplementContext(c)
		parsed, _ := impl.ParseContext("3 a,b,c")
		return []impl.Context{dual, complement, parsed}
	}
	kept, changed := results(), results()
	want := []string{"3 a,b,c", "3 bc,ac,ab", "3 a,b,c"}
	for i := range changed {
		changed[i].Rows[0] = 99
		_ = append(changed[i].Rows[:1], 99, 99)
		if textOfContext(c) != "3 a,b,c" || textOfContext(kept[i]) != want[i] {
			t.Errorf("result %d shares memory: %v, %v", i, c, kept[i])
		}
	}
}
