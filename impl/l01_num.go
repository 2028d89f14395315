package impl

import (
	"strconv"
	"strings"
)

const (
	greatestNumber = 999999
	greatestInt    = 999999999999
	maxJoined      = 1048576
)

func FormatInt(n int) string { return strconv.Itoa(n) }

func ParseNumber(s string) (n int, ok bool) {
	defer func() {
		if recover() != nil {
			n, ok = 0, false
		}
	}()
	return mustParse(s, 0, greatestNumber), true
}

func ParseInt(s string) (n int, ok bool) {
	defer func() {
		if recover() != nil {
			n, ok = 0, false
		}
	}()
	return mustParse(s, -greatestInt, greatestInt), true
}

// mustParse panics if no integer from low to high has the representation s.
func mustParse(s string, low int, high int) int {
	n, err := strconv.Atoi(s)
	// Atoi also accepts "+5", "-0" and "007", which FormatInt never returns.
	if err != nil || FormatInt(n) != s || n < low || n > high {
		panic("malformed integer")
	}
	return n
}

func SplitByte(s string, by byte) []string {
	// string(by) would encode a byte from 128 on as two bytes.
	return strings.Split(s, string([]byte{by}))
}

func Join(list []string, by string) string {
	size := 0
	for i, part := range list {
		if i > 0 {
			size += len(by)
		}
		size += len(part)
		// Stopping here keeps size far from an overflow.
		if size > maxJoined {
			return ""
		}
	}
	return strings.Join(list, by)
}
