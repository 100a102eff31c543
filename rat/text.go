package rat

import (
	"strings"

	"parlour/api"
	"parlour/nat"
)

// Text writes a number in decimal, with a / if it is no integer.
func Text(a api.Rat) (string, api.Errno) {
	if e := Check(a); e != api.OK {
		return "", e
	}
	text, _ := nat.Text(a.Num)
	if a.Neg {
		text = "-" + text
	}
	if compare(a.Den, one()) != 0 {
		den, _ := nat.Text(a.Den)
		text += "/" + den
	}
	return text, api.OK
}

// Parse reads a number that need not be in lowest terms.
func Parse(s string) (api.Rat, api.Fault) {
	if len(s) > api.MaxText {
		return api.Rat{}, api.Fault{Err: api.ErrLong, At: api.MaxText}
	}
	if at := misplaced(s); at >= 0 {
		return api.Rat{}, api.Fault{Err: api.ErrSyntax, At: at}
	}
	digits, neg := strings.CutPrefix(s, "-")
	top, bottom, divided := strings.Cut(digits, "/")
	num, f := parseAt(top, len(s)-len(digits))
	if f.Err != api.OK {
		return api.Rat{}, f
	}
	den := one()
	if divided {
		at := len(s) - len(bottom)
		if den, f = parseAt(bottom, at); f.Err != api.OK {
			return api.Rat{}, f
		}
		if len(den) == 0 {
			return api.Rat{}, api.Fault{Err: api.ErrZero, At: at}
		}
	}
	return reduced(signed(neg, num).side, fraction{num, den}), api.Fault{}
}

// misplaced returns the place of the first byte that no number has, or else of the first sign that is where it can't be; -1 if there is none.
func misplaced(s string) int {
	if at := strings.IndexFunc(s, func(r rune) bool { return !strings.ContainsRune("0123456789-/", r) }); at >= 0 {
		return at
	}
	divided := false
	for i := range len(s) {
		if s[i] == '-' && i > 0 || s[i] == '/' && divided {
			return i
		}
		divided = divided || s[i] == '/'
	}
	return -1
}

// parseAt reads a natural number that stands at a place of a longer text.
func parseAt(digits string, at int) (api.Nat, api.Fault) {
	n, f := nat.Parse(digits)
	if f.Err != api.OK {
		f.At += at
	}
	return n, f
}
