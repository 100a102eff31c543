package token

import (
	"iter"
	"strconv"

	"parlour/api"
)

// tokens returns the tokens of a text from the left, the last one with an error if there is a fault.
func tokens(text string) iter.Seq2[api.Token, error] {
	return func(yield func(api.Token, error) bool) {
		at := 0
	scan:
		for at < len(text) {
			switch classOf(text[at]) {
			case white:
				at++
			case comment:
				at += len(commentOf(text[at:]))
			default:
				t, err := tokenAt(text, at)
				if !yield(t, err) || err != nil {
					break scan
				}
				at += len(t.Text)
			}
		}
	}
}

// tokenAt returns the token that begins at an offset of a text, or why none does.
func tokenAt(text string, at int) (api.Token, error) {
	t := longestAt(text, at)
	e := inTurn(t, exists, isShort, hasNoZero, isSmall)
	if t.Kind == api.TokWord && at > 0 && isDigit(text[at-1]) {
		// A word would have gone on through the digit, so a number ends there.
		e = api.ErrSyntax
	}
	if e != api.OK {
		return api.Token{}, failure{e, at}
	}
	return t, nil
}

// longestAt returns the longest word, run of digits or sign at an offset, valid or not.
func longestAt(text string, at int) api.Token {
	rest := text[at:]
	switch classOf(rest[0]) {
	case word:
		return api.Token{Kind: api.TokWord, Text: run(rest, isInWord), At: at}
	case number:
		all := run(rest, isDigit)
		// With an error, n is the greatest int, which is too great a number, too.
		n, _ := strconv.Atoi(all)
		return api.Token{Kind: api.TokNumber, Text: all, N: n, At: at}
	}
	return api.Token{Kind: api.TokSign, Text: signOf(rest), At: at}
}

// failure is an error with the offset at which it was found.
type failure struct {
	api.Errno
	at int
}
