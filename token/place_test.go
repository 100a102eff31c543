package token_test

import (
	"math"
	"strings"
	"testing"

	"parlour/api"
	"parlour/token"
)

// P6.4: lines and columns, from 1 on.
func TestPlace(t *testing.T) {
	for _, c := range []struct {
		text             string
		at, line, column int
	}{
		{"ab\nc", 3, 2, 1}, {"ab\nc", 0, 1, 1}, {"ab\nc", 1, 1, 2}, {"ab\nc", 2, 1, 3}, {"ab\nc", 4, 2, 2},
		{"ab", 2, 1, 3}, {"", 0, 1, 1}, {"\n", 0, 1, 1}, {"\n", 1, 2, 1}, {"\n\n", 2, 3, 1}, {"a\n\nb", 2, 2, 1},
		{"\r\nx", 1, 1, 2}, {"é\n#\xff\n", 2, 1, 3}, {"é\n#\xff\n", 5, 2, 3}, {"é\n#\xff\n", 6, 3, 1}, {"\tx", 1, 1, 2},
		{"1a ! 007", 8, 1, 9},
		{strings.Repeat("a", 20000), 20000, 1, 20001}, {strings.Repeat("\n", 20000), 20000, 20001, 1},
	} {
		if line, column, e := token.Place(c.text, c.at); line != c.line || column != c.column || e != api.OK {
			t.Error(cut(c.text), c.at, line, column, e)
		}
	}
}

// P6.4: the length of the text comes first, then the offset (R3).
func TestPlaceOfErrors(t *testing.T) {
	long := strings.Repeat("\n", 20001)
	for _, at := range []int{-1, 0, 20000, 20001, 20002, math.MaxInt, math.MinInt} {
		placesNot(t, long, at, api.ErrLong)
	}
	for _, text := range []string{"", "ab", "a\nb\n", long[1:]} {
		for _, at := range []int{-1, -2, len(text) + 1, 20001, math.MaxInt, math.MinInt} {
			placesNot(t, text, at, api.ErrRange)
		}
	}
}

func placesNot(t *testing.T, text string, at int, want api.Errno) {
	t.Helper()
	if line, column, e := token.Place(text, at); line != 0 || column != 0 || e != want {
		t.Error(cut(text), at, line, column, e, want)
	}
}

// P6.4: the first offset is at 1, 1; from byte to byte, the column grows by 1, or a line begins.
func TestPlaceOfBytes(t *testing.T) {
	random := source(4)
	for range 300 {
		text := random.choose([]string{"a", "b ", "\n", "#\n", "\xff", "é"}, 40)
		wantLine, wantColumn := 1, 1
		for at := range len(text) + 1 {
			if line, column, e := token.Place(text, at); line != wantLine || column != wantColumn || e != api.OK {
				t.Fatalf("%q %d: %d %d %v", text, at, line, column, e)
			}
			wantColumn++
			if at < len(text) && text[at] == '\n' {
				wantLine, wantColumn = wantLine+1, 1
			}
		}
	}
}
