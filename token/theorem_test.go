package token_test

import (
	"slices"
	"strings"
	"testing"

	"parlour/api"
	"parlour/token"
)

// randomTokens returns valid tokens that begin anywhere.
func randomTokens(s *source, most int) []api.Token {
	all := []api.Token{word("a"), word("_9"), word("if"), word(strings.Repeat("Q", 40)), number(0), number(12), number(1000000000)}
	for _, text := range signs() {
		all = append(all, sign(text))
	}
	var out []api.Token
	for range s.below(most + 1) {
		x := all[s.below(len(all))]
		x.At = s.below(99) - 9
		out = append(out, x)
	}
	return out
}

// P6.5: Scan returns the tokens that were rendered, each one byte behind the end of the one before.
func TestScanOfRender(t *testing.T) {
	random := source(5)
	for range 500 {
		l := randomTokens(&random, 30)
		text := rendered(t, l)
		want := slices.Clone(l)
		at := 0
		for i := range want {
			want[i].At = at
			at += len(want[i].Text) + 1
		}
		if got := scanned(t, text); !slices.Equal(got, want) {
			t.Fatal(show(l), text, show(got))
		}
	}
	many := slices.Repeat([]api.Token{number(0)}, 5000)
	if l := scanned(t, rendered(t, many)); len(l) != 5000 || l[4999] != (api.Token{Kind: api.TokNumber, Text: "0", At: 9998}) {
		t.Error(len(l))
	}
}

// moved returns tokens that begin some bytes later.
func moved(l []api.Token, by int) []api.Token {
	out := slices.Clone(l)
	for i := range out {
		out[i].At += by
	}
	return out
}

// join checks that the tokens of two texts with a line feed between them are those of both.
func join(t *testing.T, a, b string) {
	t.Helper()
	want := slices.Concat(scanned(t, a), moved(scanned(t, b), len(a)+1))
	if got := scanned(t, a+"\n"+b); !slices.Equal(got, want) {
		t.Fatalf("%q %q: %v, not %v", a, b, show(got), show(want))
	}
}

// P6.6: also if the first text ends with a comment, with a number or with the first byte of a sign.
func TestScanOfTwoTexts(t *testing.T) {
	ends := []string{"", "a", "1", "<", "=", "..", "#", "a#b", "1#", "\n", " "}
	for _, a := range ends {
		for _, b := range append(ends, "a#\nc") {
			join(t, a, b)
		}
	}
	random := source(66)
	for range 500 {
		join(t, random.choose(good(), 20)+ends[random.below(len(ends))], random.choose(good(), 20))
	}
	half := strings.Repeat(";", 2500) + strings.Repeat(" ", 7499)
	join(t, half, half)
}

// P6.7: stripping a stripped text changes nothing.
func TestStripOfStrip(t *testing.T) {
	random := source(7)
	for range 500 {
		text := random.choose(append(good(), ";", "+", "{", "a;"), 40)
		once, f := token.Strip(text)
		if f != (api.Fault{}) || once != rendered(t, scanned(t, text)) {
			t.Fatalf("%q: %q %v", text, once, f)
		}
		if twice, f := token.Strip(once); twice != once || f != (api.Fault{}) {
			t.Fatalf("%q: %q %v", once, twice, f)
		}
	}
}

// P6.7: comments and white bytes in front of a token change only offsets.
func TestFillings(t *testing.T) {
	random := source(77)
	fillings := []string{" ", "\t", "\n", "#\n", "# 1a !\n", "#a\n\t#b\n "}
	for range 500 {
		text := random.choose([]string{"a ", "b1", "+", "<=", "<", "=", "..", ";", "9 ", "0;", "\n", "#x\n"}, 20)
		l := scanned(t, text)
		for i, x := range l {
			filling := fillings[random.below(len(fillings))]
			want := slices.Concat(l[:i], moved(l[i:], len(filling)))
			if got := scanned(t, text[:x.At]+filling+text[x.At:]); !slices.Equal(got, want) {
				t.Fatalf("%q %d %q: %v, not %v", text, x.At, filling, show(got), show(want))
			}
		}
	}
}
