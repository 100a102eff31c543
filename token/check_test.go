package token_test

import (
	"math"
	"strconv"
	"strings"
	"testing"

	"parlour/api"
	"parlour/token"
)

// P6.2: tokens of texts are valid, wherever they begin.
func TestCheckOfTokens(t *testing.T) {
	valid := []api.Token{word("a"), word("_"), word("A_9"), word(strings.Repeat("z", 40)), number(0), number(7), number(1000000000)}
	for _, s := range signs() {
		valid = append(valid, sign(s))
	}
	for _, x := range valid {
		for _, at := range []int{0, 1, -1, 20001, math.MaxInt, math.MinInt} {
			x.At = at
			if e := token.Check(x); e != api.OK {
				t.Error(show([]api.Token{x}), e)
			}
		}
	}
}

// P6.2: a text that is no token of the kind, whatever the number.
func TestCheckOfForms(t *testing.T) {
	forms := map[int][]string{
		api.TokWord:   {"", "1a", "1", "a b", "a ", " a", "a\n", "#", "#a", "a#", "a#b", "\n", "a.", "a;", "é", "aé", "a\x00", "a-b", ";", "==", strings.Repeat("a", 41), strings.Repeat("a", 30000)},
		api.TokNumber: {"", "a", "1a", "1_", "05", "00", "-1", "+1", "1 ", " 1", "1.0", "1;", "1 2", "1#", "0x1", "1e3", "1000000001", "99999999999999999999", strings.Repeat("0", 30000), "١"},
		api.TokSign:   {"", "!", ".", "...", "<==", "===", "= =", "=<", "=>", "<>", "< ", " <", "a", "1", "#", ";;", "{}", "&", "[", "!==", "\n", "\xff", strings.Repeat(";", 30000)},
	}
	for kind, all := range forms {
		for _, text := range all {
			n, _ := strconv.Atoi(text)
			for _, n := range []int{0, 1, n} {
				if e := token.Check(api.Token{Kind: kind, Text: text, N: n}); e != api.ErrForm {
					t.Error(kind, cut(text), n, e)
				}
			}
		}
	}
}

// P6.2: a kind that there is not, or that of another text.
func TestCheckOfKinds(t *testing.T) {
	for _, x := range []api.Token{word("a"), number(5), sign("=="), {}, {Text: "!"}} {
		for _, kind := range []int{0, 1, 2, 3, 4, -1, 257, math.MaxInt, math.MinInt} {
			want := api.ErrForm
			if kind == x.Kind && kind != 0 {
				want = api.OK
			}
			if e := token.Check(api.Token{Kind: kind, Text: x.Text, N: x.N}); e != want {
				t.Error(kind, x.Text, e)
			}
		}
	}
}

// P6.2: a number that is not that of the text.
func TestCheckOfNumbers(t *testing.T) {
	for _, x := range []api.Token{word("a"), word("_5"), number(0), number(5), number(10), number(1000000000), sign("=="), sign(";")} {
		for _, n := range []int{0, 1, 5, 6, 10, -5, -1, 1000000000, math.MaxInt, math.MinInt} {
			want := api.ErrRange
			if n == x.N {
				want = api.OK
			}
			if e := token.Check(api.Token{Kind: x.Kind, Text: x.Text, N: n}); e != want {
				t.Error(x.Text, n, e)
			}
		}
	}
}
