package token

import "parlour/api"

// inTurn returns the first error of some checks.
func inTurn[T any](x T, checks ...func(T) api.Errno) api.Errno {
	for _, check := range checks {
		if e := check(x); e != api.OK {
			return e
		}
	}
	return api.OK
}

// unless returns an error unless a condition holds.
func unless(holds bool, e api.Errno) api.Errno {
	if holds {
		return api.OK
	}
	return e
}

// The checks of what was found in a text.

func exists(t api.Token) api.Errno { return unless(t.Text != "", api.ErrSyntax) }

func isShort(t api.Token) api.Errno {
	return unless(t.Kind != api.TokWord || len(t.Text) <= api.MaxWord, api.ErrLong)
}

// Only numbers begin with a digit, and exists comes before.
func hasNoZero(t api.Token) api.Errno {
	return unless(t.Text == "0" || t.Text[0] != '0', api.ErrForm)
}

func isSmall(t api.Token) api.Errno { return unless(t.N <= api.MaxNumber, api.ErrRange) }

// The checks of a token that a caller gives: it has to be what its own text contains.

func isWhole(t api.Token) api.Errno {
	found := read(t.Text)
	return unless(found.Text != "" && found.Kind == t.Kind && found.Text == t.Text, api.ErrForm)
}

func hasNumber(t api.Token) api.Errno { return unless(read(t.Text).N == t.N, api.ErrRange) }

// read returns the first token of a text, or none if it has none or a fault.
func read(text string) api.Token {
	for t, err := range tokens(text) {
		if err == nil {
			return t
		}
	}
	return api.Token{}
}
