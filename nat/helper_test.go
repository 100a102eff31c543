package nat_test

import (
	"slices"
	"strings"
	"testing"

	"parlour/api"
	"parlour/nat"
)

// limbs returns a list of limbs, the lowest one first.
func limbs(l ...uint32) api.Nat { return l }

// repeat returns a list of n equal limbs.
func repeat(n int, limb uint32) api.Nat {
	return slices.Repeat(api.Nat{limb}, n)
}

// number reads a number from its digits, without the help of the package.
func number(s string) api.Nat {
	s = strings.TrimLeft(s, "0")
	var out api.Nat
	for len(s) > 0 {
		cut := max(0, len(s)-9)
		var limb uint32
		for _, c := range s[cut:] {
			limb = limb*10 + uint32(c-'0')
		}
		out = append(out, limb)
		s = s[:cut]
	}
	return out
}

// tens returns the power of ten with an exponent.
func tens(exponent int) api.Nat { return number("1" + strings.Repeat("0", exponent)) }

// greatest returns the greatest valid number.
func greatest() api.Nat { return repeat(api.MaxLimbs, 999999999) }

// unary and binary are functions of one number, and of two.
type unary func(a api.Nat) (api.Nat, api.Errno)
type binary func(a, b api.Nat) (api.Nat, api.Errno)

func quotient(a, b api.Nat) (api.Nat, api.Errno) {
	q, _, e := nat.Div(a, b)
	return q, e
}

func remainder(a, b api.Nat) (api.Nat, api.Errno) {
	_, r, e := nat.Div(a, b)
	return r, e
}

func power(n int) unary {
	return func(a api.Nat) (api.Nat, api.Errno) { return nat.Pow(a, n) }
}

// binaries returns all functions of two numbers whose result is a number.
func binaries() map[string]binary {
	return map[string]binary{"Add": nat.Add, "Sub": nat.Sub, "Mul": nat.Mul, "Div q": quotient, "Div r": remainder, "Gcd": nat.Gcd, "Lcm": nat.Lcm}
}

// is checks that a result is valid, and the number that is wanted.
func is(t *testing.T, what string, got api.Nat, e api.Errno, want api.Nat) {
	t.Helper()
	if e != api.OK || !slices.Equal(got, want) {
		t.Errorf("%s: %v, %v, not %v", what, short(got), e, short(want))
	}
}

// fails checks that there is an error, and no number.
func fails(t *testing.T, what string, got api.Nat, e, want api.Errno) {
	t.Helper()
	if e != want || len(got) != 0 {
		t.Errorf("%s: %v, %v, not %v", what, short(got), e, want)
	}
}

// short cuts a list of limbs for a message.
func short(n api.Nat) api.Nat { return n[:min(len(n), 12)] }

// must returns a result that has no error.
func must(t *testing.T) func(n api.Nat, e api.Errno) api.Nat {
	return func(n api.Nat, e api.Errno) api.Nat {
		t.Helper()
		if e != api.OK || nat.Check(n) != api.OK {
			t.Fatalf("%v, %v", short(n), e)
		}
		return n
	}
}

// rest returns the remainder of a number and a modulus below 2^31, limb by limb.
func rest(n api.Nat, modulus uint64) uint64 {
	var out uint64
	for i := len(n) - 1; i >= 0; i-- {
		out = (out*api.Limb + uint64(n[i])) % modulus
	}
	return out
}

// moduli are primes that no power of ten is near.
func moduli() []uint64 { return []uint64{2147483647, 1999999973, 998244353} }

// source makes numbers that look as if by chance, always the same ones.
type source uint64

func (s *source) below(n int) int {
	*s = *s*6364136223846793005 + 1442695040888963407
	return int(uint64(*s) >> 33 % uint64(n))
}

// number returns a number of at most size limbs, of which many are at the ends or in the middle of their range.
func (s *source) number(size int) api.Nat {
	out := make(api.Nat, s.below(size+1))
	edges := []uint32{0, 1, 499999999, 500000000, 999999998, 999999999}
	plain := s.below(2) == 0
	for i := range out {
		if out[i] = edges[s.below(len(edges))]; plain {
			out[i] = uint32(s.below(api.Limb))
		}
	}
	for len(out) > 0 && out[len(out)-1] == 0 {
		out = out[:len(out)-1]
	}
	return out
}
