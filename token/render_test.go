package token_test

import (
	"slices"
	"strings"
	"testing"

	"parlour/api"
	"parlour/token"
)

// P6.3: the texts of tokens with one blank between them, wherever they begin.
func TestRender(t *testing.T) {
	for _, c := range []struct {
		l    []api.Token
		want string
	}{
		{nil, ""},
		{[]api.Token{}, ""},
		{[]api.Token{word("a")}, "a"},
		{[]api.Token{word("a"), number(1), sign(";")}, "a 1 ;"},
		{[]api.Token{sign("<"), sign("="), number(0), word("b")}, "< = 0 b"},
		{[]api.Token{{Kind: 1, Text: "a", At: 9}, {Kind: 2, Text: "10", N: 10, At: -1}, {Kind: 1, Text: "b", At: 9}}, "a 10 b"},
	} {
		if s, e := token.Render(c.l); s != c.want || e != api.OK {
			t.Error(show(c.l), s, e)
		}
	}
}

// rendersNot checks that Render returns an error, and nothing else.
func rendersNot(t *testing.T, l []api.Token, want api.Errno) {
	t.Helper()
	if s, e := token.Render(l); s != "" || e != want {
		t.Error(len(l), cut(show(l)), cut(s), e, want)
	}
}

// P6.3: the first error of Check.
func TestRenderOfErrors(t *testing.T) {
	form, number6 := word("1a"), api.Token{Kind: api.TokNumber, Text: "5", N: 6}
	for _, x := range []api.Token{form, number6, {}, {Kind: 4, Text: "a"}, word(""), word("a b"), sign("# a"), {Kind: 1, Text: "a", N: 1}} {
		want := token.Check(x)
		for _, l := range [][]api.Token{{x}, {word("a"), x}, {x, word("a")}, {sign(";"), x, number6}, {x, form}} {
			rendersNot(t, l, want)
		}
	}
	rendersNot(t, []api.Token{number6, form}, api.ErrRange)
	rendersNot(t, []api.Token{form, number6}, api.ErrForm)
}

// P6.3: too many tokens come first, then the errors of Check, then too long a text.
func TestRenderOfLimits(t *testing.T) {
	many := slices.Repeat([]api.Token{sign(";")}, 5000)
	if s := rendered(t, many); len(s) != 9999 || strings.Trim(s, "; ") != "" {
		t.Error(len(s))
	}
	rendersNot(t, append(slices.Clone(many), sign(";")), api.ErrFull)
	rendersNot(t, append(slices.Clone(many), word("1a")), api.ErrFull)
	rendersNot(t, append([]api.Token{word("1a")}, many...), api.ErrFull)
	rendersNot(t, make([]api.Token, 5001), api.ErrFull)
	rendersNot(t, append(slices.Clone(many[1:]), word("1a")), api.ErrForm)
	// 487 words with the blanks behind them, and a last one of 33 bytes: 20,000 bytes.
	long := append(slices.Repeat([]api.Token{word(strings.Repeat("a", 40))}, 487), word(strings.Repeat("b", 33)))
	if s := rendered(t, long); len(s) != 20000 {
		t.Error(len(s))
	}
	longer := append(long[:487:487], word(strings.Repeat("b", 34)))
	rendersNot(t, longer, api.ErrLong)
	rendersNot(t, append(longer, word("1a")), api.ErrForm)
	rendersNot(t, slices.Repeat(longer, 10), api.ErrLong)
	rendersNot(t, slices.Repeat(longer, 11), api.ErrFull)
}

// P6.3: a text without comments and with one blank between its tokens.
func TestStrip(t *testing.T) {
	for text, want := range map[string]string{
		"":                  "",
		" #a":               "",
		"a1=20;#x":          "a1 = 20 ;",
		"\t a\n\n#b\n  c\n": "a c",
		"<=>..!=":           "<= > .. !=",
		"a 1 ;":             "a 1 ;",
	} {
		if s, f := token.Strip(text); s != want || f != (api.Fault{}) {
			t.Errorf("%q: %q %v", text, s, f)
		}
	}
	faults(t, "1a", fault(api.ErrSyntax, 1))
}

// P6.3: a stripped text may be too long, though the text is not.
func TestStripOfLongTexts(t *testing.T) {
	// A word of 9 bytes and a sign become 12 bytes with the blanks behind them.
	pairs := strings.Repeat("aaaaaaaaa;", 1666)
	if s, f := token.Strip(pairs + "bbbbbbbb # b"); len(s) != 20000 || f != (api.Fault{}) {
		t.Error(len(s), f)
	}
	long := pairs + "bbbbbbbbb"
	if s, f := token.Strip(long); s != "" || f != fault(api.ErrLong, 20000) {
		t.Error(cut(s), f)
	}
	if l := scanned(t, long); len(l) != 2*1666+1 {
		t.Error(len(l))
	}
	faults(t, long+"!", fault(api.ErrSyntax, len(long)))
}
