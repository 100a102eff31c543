package token_test

import (
	"regexp"
	"slices"
	"strconv"
	"strings"
	"testing"

	"parlour/api"
	"parlour/token"
)

func word(text string) api.Token { return api.Token{Kind: api.TokWord, Text: text} }
func sign(text string) api.Token { return api.Token{Kind: api.TokSign, Text: text} }

func number(n int) api.Token {
	return api.Token{Kind: api.TokNumber, Text: strconv.Itoa(n), N: n}
}

// signs returns all signs.
func signs() []string {
	return strings.Fields("{ } ( ) : ; , + - * / % < > = == != <= >= ..")
}

// show returns tokens as the chapter writes them, with N where it is not that of the text.
func show(l []api.Token) string {
	var out []string
	for _, t := range l {
		kind := "?"
		if t.Kind >= api.TokWord && t.Kind <= api.TokSign {
			kind = "?wns"[t.Kind : t.Kind+1]
		}
		s := kind + " " + t.Text
		if n, _ := strconv.Atoi(t.Text); n != t.N {
			s += " (N " + strconv.Itoa(t.N) + ")"
		}
		out = append(out, s+" "+strconv.Itoa(t.At))
	}
	return strings.Join(out, ", ")
}

// cut returns a text for a message.
func cut(text string) string { return strconv.Quote(text[:min(len(text), 60)]) }

// scanned returns the tokens of a text that has no fault.
func scanned(t *testing.T, text string) []api.Token {
	t.Helper()
	l, f := token.Scan(text)
	if f != (api.Fault{}) {
		t.Fatal(cut(text), f)
	}
	return l
}

// rendered returns the text of tokens that have no error.
func rendered(t *testing.T, l []api.Token) string {
	t.Helper()
	s, e := token.Render(l)
	if e != api.OK {
		t.Fatal(cut(show(l)), e)
	}
	return s
}

// faults checks that a text has a fault, and nothing else.
func faults(t *testing.T, text string, want api.Fault) {
	t.Helper()
	if l, f := token.Scan(text); f != want || l != nil {
		t.Error("Scan", cut(text), cut(show(l)), f, want)
	}
	if s, f := token.Strip(text); f != want || s != "" {
		t.Error("Strip", cut(text), cut(s), f, want)
	}
}

func fault(e api.Errno, at int) api.Fault { return api.Fault{Err: e, At: at} }

var (
	skipped = regexp.MustCompile(`^(?:[ \t\n]|#[^\n]*)*`)
	begun   = regexp.MustCompile(`^(?:([A-Za-z_][A-Za-z0-9_]*)|([0-9]+)|[{}():;,+*/%-]|[<>=]=?|!=|\.\.)`)
)

// reference returns the tokens of a text of at most MaxText bytes, or its fault, by regular expressions.
func reference(text string) ([]api.Token, api.Fault) {
	var l []api.Token
	for at := len(skipped.FindString(text)); at < len(text); {
		found := begun.FindStringSubmatch(text[at:])
		if found == nil || found[1] != "" && len(l) > 0 && l[len(l)-1].Kind == api.TokNumber && at == l[len(l)-1].At+len(l[len(l)-1].Text) {
			return nil, fault(api.ErrSyntax, at)
		}
		t := sign(found[0])
		switch {
		case len(found[1]) > 40:
			return nil, fault(api.ErrLong, at)
		case found[1] != "":
			t = word(found[1])
		case len(found[2]) > 1 && found[2][0] == '0':
			return nil, fault(api.ErrForm, at)
		case len(found[2]) > 10 || len(found[2]) == 10 && found[2] > "1000000000":
			return nil, fault(api.ErrRange, at)
		case found[2] != "":
			n, _ := strconv.Atoi(found[2])
			t = number(n)
		}
		if len(l) == 5000 {
			return nil, fault(api.ErrFull, at)
		}
		t.At = at
		l = append(l, t)
		at += len(t.Text)
		at += len(skipped.FindString(text[at:]))
	}
	return l, api.Fault{}
}

// agrees checks Scan by the reference.
func agrees(t *testing.T, text string) {
	t.Helper()
	want, bad := reference(text)
	if bad != (api.Fault{}) {
		faults(t, text, bad)
		return
	}
	if l, f := token.Scan(text); f != (api.Fault{}) || !slices.Equal(l, want) {
		t.Error(cut(text), cut(show(l)), f, cut(show(want)))
	}
}

// texts calls a function with all texts of some pieces, up to a number of pieces.
func texts(pieces []string, most int, visit func(string)) {
	var extend func(text string, left int)
	extend = func(text string, left int) {
		visit(text)
		for _, piece := range pieces {
			if left > 0 {
				extend(text+piece, left-1)
			}
		}
	}
	extend("", most)
}

// source returns numbers that look random, the same ones in each run.
type source uint64

func (s *source) below(n int) int {
	*s = *s*6364136223846793005 + 1442695040888963407
	return int(uint64(*s)>>33) % n
}

// choose returns some pieces behind each other, up to a number of them.
func (s *source) choose(pieces []string, most int) string {
	var out strings.Builder
	for range s.below(most + 1) {
		out.WriteString(pieces[s.below(len(pieces))])
	}
	return out.String()
}

// good returns pieces of texts without faults, each of them a white byte, a comment with its line feed, or a token with a blank behind it.
func good() []string {
	out := []string{" ", "\t", "\n", "#\n", "# 1a ! \x80#\n", "a ", "_9 ", "Zz_0 ", "if ", "0 ", "7 ", "1000000000 ", strings.Repeat("x", 40) + " "}
	for _, s := range signs() {
		out = append(out, s+" ")
	}
	return out
}
