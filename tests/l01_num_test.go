package tests

import (
	"math"
	"slices"
	"strings"
	"testing"

	"loop.example/g00596/impl"
)

const joinLimit = 1048576

func TestFormatInt(t *testing.T) {
	cases := []struct {
		n    int
		want string
	}{
		{0, "0"},
		{-5, "-5"},
		{7, "7"},
		{10, "10"},
		{-70, "-70"},
		{1000000, "1000000"},
		{math.MaxInt, "9223372036854775807"},
		{math.MinInt, "-9223372036854775808"},
		{math.MinInt + 1, "-9223372036854775807"},
	}
	for _, c := range cases {
		if got := impl.FormatInt(c.n); got != c.want {
			t.Errorf("FormatInt(%d) = %q, want %q", c.n, got, c.want)
		}
	}
}

func TestParseNumber(t *testing.T) {
	cases := []struct {
		text string
		want int
	}{
		{"0", 0},
		{"1", 1},
		{"9", 9},
		{"10", 10},
		{"100", 100},
		{"123456", 123456},
		{"999998", 999998},
		{"999999", 999999},
	}
	for _, c := range cases {
		if got, ok := impl.ParseNumber(c.text); !ok || got != c.want {
			t.Errorf("ParseNumber(%q) = %d, %v, want %d, true", c.text, got, ok, c.want)
		}
	}
}

func TestParseInt(t *testing.T) {
	cases := []struct {
		text string
		want int
	}{
		{"0", 0},
		{"1", 1},
		{"-1", -1},
		{"-5", -5},
		{"10", 10},
		{"-10", -10},
		{"1000000", 1000000},
		{"-1000000", -1000000},
		{"4294967296", 4294967296},
		{"999999999998", 999999999998},
		{"999999999999", 999999999999},
		{"-999999999998", -999999999998},
		{"-999999999999", -999999999999},
	}
	for _, c := range cases {
		if got, ok := impl.ParseInt(c.text); !ok || got != c.want {
			t.Errorf("ParseInt(%q) = %d, %v, want %d, true", c.text, got, ok, c.want)
		}
	}
}

// malformed lists what is the representation of no integer.
func malformed() []string {
	return []string{
		"", "-", "+", "--", "-0", "+0", "+5", "--5", "5-", "-+5",
		"00", "01", "007", "-007", "-01", "000000", "0000001",
		" ", " 5", "5 ", "5\n", "\t5", "- 5", "1 2",
		"a", "5a", "a5", "0x5", "0b1", "0o7", "5e2", "5.0", "5.", ".5", "1_000", "1,000",
		"\x00", "5\x00", "\xff", "5\xff", "\xd9\xa5", "\xef\xbc\x95", "inf", "NaN", "true",
		"/", ":", "1/", "1:",
	}
}

// beyondInts lists integers that are too great or too small for ParseInt.
func beyondInts() []string {
	return []string{
		"1000000000000", "-1000000000000", "9999999999999",
		"9223372036854775807", "-9223372036854775808",
		"9223372036854775808", "-9223372036854775809",
		"18446744073709551615", "18446744073709551616", "18446744073709551621", "-18446744073709551615",
		strings.Repeat("9", 1000), "-" + strings.Repeat("9", 1000), "1" + strings.Repeat("0", 64),
	}
}

func TestParseNumberRejects(t *testing.T) {
	list := append(malformed(), beyondInts()...)
	list = append(list, "1000000", "1000001", "9999999", "999999999999", "-1", "-5", "-999999")
	for _, text := range list {
		if got, ok := impl.ParseNumber(text); ok || got != 0 {
			t.Errorf("ParseNumber(%q) = %d, %v, want 0, false", text, got, ok)
		}
	}
}

func TestParseIntRejects(t *testing.T) {
	for _, text := range append(malformed(), beyondInts()...) {
		if got, ok := impl.ParseInt(text); ok || got != 0 {
			t.Errorf("ParseInt(%q) = %d, %v, want 0, false", text, got, ok)
		}
	}
}

func TestNumbersAreParsedFromTheirText(t *testing.T) {
	for n := 0; n <= 999999; n++ {
		if got, ok := impl.ParseNumber(impl.FormatInt(n)); !ok || got != n {
			t.Fatalf("ParseNumber(FormatInt(%d)) = %d, %v", n, got, ok)
		}
	}
	for n := 1; n <= 999999999999; n = n*3 + 1 {
		for _, m := range []int{n, -n} {
			if got, ok := impl.ParseInt(impl.FormatInt(m)); !ok || got != m {
				t.Fatalf("ParseInt(FormatInt(%d)) = %d, %v", m, got, ok)
			}
		}
	}
}

// Every text of up to four of these bytes is accepted exactly if it is the text of its value.
func TestParsedTextsAreTheirNumbersTexts(t *testing.T) {
	known := map[string]int{}
	for n := -999; n <= 9999; n++ {
		known[impl.FormatInt(n)] = n
	}
	for _, text := range shortTexts("019-+ ") {
		want, ok := known[text]
		if got, accepted := impl.ParseInt(text); accepted != ok || got != want {
			t.Errorf("ParseInt(%q) = %d, %v, want %d, %v", text, got, accepted, want, ok)
		}
	}
}

func TestSplitByte(t *testing.T) {
	cases := []struct {
		text string
		by   byte
		want []string
	}{
		{"", ',', []string{""}},
		{"", 0, []string{""}},
		{",", ',', []string{"", ""}},
		{",,", ',', []string{"", "", ""}},
		{"a", ',', []string{"a"}},
		{",a", ',', []string{"", "a"}},
		{"a,", ',', []string{"a", ""}},
		{"a,bc,,d", ',', []string{"a", "bc", "", "d"}},
		{"a b,c", ' ', []string{"a", "b,c"}},
		{"one\ntwo\n", '\n', []string{"one", "two", ""}},
		{"a\x00b", 0, []string{"a", "b"}},
		{"a\xffb\xfec", 0xff, []string{"a", "b\xfec"}},
		{"\xc3\xa9", 0xa9, []string{"\xc3", ""}},
		{"\xc3\xa9", 0xc3, []string{"", "\xa9"}},
		{"\xc3\xa9", 0xe9, []string{"\xc3\xa9"}},
		{"a\xe9b", 0xe9, []string{"a", "b"}},
	}
	for _, c := range cases {
		if got := impl.SplitByte(c.text, c.by); !slices.Equal(got, c.want) {
			t.Errorf("SplitByte(%q, %q) = %q, want %q", c.text, c.by, got, c.want)
		}
	}
}

func TestSplitByteOfEveryByte(t *testing.T) {
	for b := range 256 {
		by := byte(b)
		other := string([]byte{by ^ 1})
		sign := string([]byte{by})
		if got := impl.SplitByte("", by); !slices.Equal(got, []string{""}) {
			t.Errorf("SplitByte of the empty string by %d = %q", b, got)
		}
		want := []string{other, "", other + other, ""}
		if got := impl.SplitByte(other+sign+sign+other+other+sign, by); !slices.Equal(got, want) {
			t.Errorf("SplitByte by %d = %q, want %q", b, got, want)
		}
	}
}

func TestJoin(t *testing.T) {
	cases := []struct {
		list []string
		by   string
		want string
	}{
		{nil, ",", ""},
		{[]string{}, ",", ""},
		{[]string{""}, ",", ""},
		{[]string{"a"}, ",", "a"},
		{[]string{"a", "b"}, "-", "a-b"},
		{[]string{"", ""}, "-", "-"},
		{[]string{"", "a", ""}, "-", "-a-"},
		{[]string{"a", "b", "c"}, "", "abc"},
		{[]string{"a", "b", "c"}, ", ", "a, b, c"},
		{[]string{"\xff", "\x00"}, "\xc3", "\xff\xc3\x00"},
	}
	for _, c := range cases {
		if got := impl.Join(c.list, c.by); got != c.want {
			t.Errorf("Join(%q, %q) = %q, want %q", c.list, c.by, got, c.want)
		}
	}
}

func TestJoinUpToItsLimit(t *testing.T) {
	full := strings.Repeat("x", joinLimit)
	half := strings.Repeat("x", joinLimit/2)
	cases := []struct {
		name string
		list []string
		by   string
		want string
	}{
		{"one element", []string{full}, "separator", full},
		{"two elements", []string{half, half}, "", full},
		{"a separator", []string{half, half[1:]}, "x", full},
		{"only separators", []string{"", "", ""}, half, full},
		{"only one separator", []string{"", ""}, full, full},
		{"elements of one byte", impl.SplitByte(strings.Repeat("a,", joinLimit/2-1)+"ab", ','), ",", strings.Repeat("a,", joinLimit/2-1) + "ab"},
	}
	for _, c := range cases {
		if got := impl.Join(c.list, c.by); got != c.want {
			t.Errorf("%s: Join returns %d bytes, want %d", c.name, len(got), len(c.want))
		}
	}
}

func TestJoinAboveItsLimit(t *testing.T) {
	full := strings.Repeat("x", joinLimit)
	half := strings.Repeat("x", joinLimit/2)
	cases := []struct {
		name string
		list []string
		by   string
	}{
		{"one element", []string{full + "x"}, ""},
		{"two elements", []string{full, "x"}, ""},
		{"a separator", []string{half, half}, "x"},
		{"only separators", []string{"", "", "", ""}, half},
		{"only one separator", []string{"", ""}, full + "x"},
		{"the last separator", []string{full, ""}, "x"},
		{"far above", slices.Repeat([]string{full}, 1<<20), full},
	}
	for _, c := range cases {
		if got := impl.Join(c.list, c.by); got != "" {
			t.Errorf("%s: Join returns %d bytes, want none", c.name, len(got))
		}
	}
}

func TestJoiningUndoesSplitting(t *testing.T) {
	texts := []string{"", ",", ",,", "a", "a,", ",a", "a,b", "a,,b", "\xc3\xa9,\xff", "a-b c\nd\x00e", strings.Repeat(",x", joinLimit/2)}
	for _, text := range texts {
		for b := range 256 {
			if len(text) > 100 && b != ',' && b != 0xff {
				continue
			}
			parts := impl.SplitByte(text, byte(b))
			if got := impl.Join(parts, string([]byte{byte(b)})); got != text {
				t.Errorf("joining what is split by %d differs from the text of %d bytes", b, len(text))
			}
			if want := strings.Count(text, string([]byte{byte(b)})) + 1; len(parts) != want {
				t.Errorf("%d parts by %d, want %d", len(parts), b, want)
			}
		}
	}
}

func TestSplittingUndoesJoining(t *testing.T) {
	lists := [][]string{{""}, {"", ""}, {"a"}, {"a", ""}, {"", "a"}, {"a", "b", ""}, {"\xc3", "\xa9", "\xc3\xa9"}, {"-5", "0", "70"}}
	for _, list := range lists {
		for _, by := range []byte{',', 0, '\n', 0x80, 0xff} {
			if got := impl.SplitByte(impl.Join(list, string([]byte{by})), by); !slices.Equal(got, list) {
				t.Errorf("splitting what is joined by %d = %q, want %q", by, got, list)
			}
		}
	}
}

// Promise 31 for chapter 1.
func TestJoinKeepsItsList(t *testing.T) {
	kept := []string{"a", "b", "c", "d"}
	for size := range 5 {
		list := slices.Clone(kept)
		impl.Join(list[:size], ",")
		if !slices.Equal(list, kept) {
			t.Errorf("Join of %d elements changes the list to %q", size, list)
		}
	}
}

func TestSplitByteReturnsNewSlices(t *testing.T) {
	first := impl.SplitByte("a,b", ',')
	second := impl.SplitByte("a,b", ',')
	first[0] = "x"
	if !slices.Equal(second, []string{"a", "b"}) {
		t.Errorf("two results share memory: %q", second)
	}
}
