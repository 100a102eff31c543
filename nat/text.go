package nat

import "parlour/api"

// Text returns the decimal digits of a number.
func Text(n api.Nat) (string, api.Errno) {
	if e := Check(n); e != api.OK {
		return "", e
	}
	out := make([]byte, countDigits(n))
	for i := range out {
		out[i] = '0' + digit(n, len(out)-1-i)
	}
	return string(out), api.OK
}

// digit returns the decimal digit at a place of a number; the place of the ones is 0.
func digit(n api.Nat, place int) byte {
	if place/limbDigits >= len(n) {
		return 0
	}
	return byte(n[place/limbDigits] / powers[place%limbDigits] % 10)
}

// Parse reads a number from its decimal digits.
func Parse(s string) (api.Nat, api.Fault) {
	if len(s) > maxDigits {
		return nil, api.Fault{Err: api.ErrLong, At: maxDigits}
	}
	for i := range len(s) {
		if s[i] < '0' || s[i] > '9' {
			return nil, api.Fault{Err: api.ErrSyntax, At: i}
		}
	}
	if len(s) == 0 || len(s) > 1 && s[0] == '0' {
		return nil, api.Fault{Err: api.ErrSyntax, At: 0}
	}
	n := make(api.Nat, (len(s)+limbDigits-1)/limbDigits)
	for i := range len(s) {
		place := len(s) - 1 - i
		n[place/limbDigits] += uint32(s[i]-'0') * powers[place%limbDigits]
	}
	return trim(n), api.Fault{}
}
