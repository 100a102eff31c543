package token_test

import (
	"math"
	"slices"
	"strings"
	"testing"

	"parlour/api"
	"parlour/token"
)

// R4: the tokens given to Render are neither changed nor kept, nor is what stands behind them.
func TestArguments(t *testing.T) {
	kept := api.Token{Kind: 77, Text: "kept", N: 7, At: 7}
	for _, l := range [][]api.Token{{word("a"), number(5), sign(";")}, {word("a"), word("1a")}, slices.Repeat([]api.Token{sign(";")}, 5001)} {
		whole := append(slices.Clone(l), kept)
		given := slices.Clone(whole)
		text, e := token.Render(given[:len(l)])
		if !slices.Equal(given, whole) {
			t.Error(cut(show(given)))
		}
		for i := range given {
			given[i] = kept
		}
		if again, e2 := token.Render(l); text != again || e != e2 {
			t.Error(cut(text), e, cut(again), e2)
		}
	}
}

// R4: the tokens of each call are in memory of their own.
func TestResults(t *testing.T) {
	const text = "a1 = 20;"
	first, second := scanned(t, text), scanned(t, text)
	first = first[:cap(first)]
	for i := range first {
		first[i] = api.Token{}
	}
	if show(second) != "w a1 0, s = 3, n 20 5, s ; 7" || !slices.Equal(second, scanned(t, text)) {
		t.Error(show(second))
	}
}

// R4: a nil list and an empty one are equal.
func TestEmpty(t *testing.T) {
	a, e := token.Render(nil)
	b, e2 := token.Render([]api.Token{})
	if a != b || e != e2 || e != api.OK {
		t.Error(a, e, b, e2)
	}
}

// P1, R2: whatever is given, every function comes to an end without a panic, and twice with the same result.
func TestRawArguments(t *testing.T) {
	random := source(1)
	for range 2000 {
		raw := make([]byte, random.below(60))
		for i := range raw {
			raw[i] = byte(random.below(256))
		}
		text := string(raw)
		agrees(t, text)
		x := api.Token{Kind: random.below(6) - 1, Text: text, N: random.below(9) - 4, At: random.below(9) - 4}
		s, e := token.Render([]api.Token{word("a"), x})
		if want := token.Check(x); e != want || (e == api.OK) != (s == "a "+text) {
			t.Errorf("%q %v %v %q", text, e, want, s)
		}
		placed(t, text, random.below(80)-10)
	}
	for _, at := range []int{math.MinInt, math.MaxInt} {
		placed(t, strings.Repeat("\n", 20000), at)
	}
}

// placed checks that Place has a result just for the offsets of a text.
func placed(t *testing.T, text string, at int) {
	t.Helper()
	line, column, e := token.Place(text, at)
	if good := at >= 0 && at <= len(text); (e == api.OK) != good || (line > 0) != good || (column > 0) != good {
		t.Errorf("%q %d: %d %d %v", text, at, line, column, e)
	}
}
