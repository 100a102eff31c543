package rat_test

import (
	"slices"
	"strings"
	"testing"

	"parlour/api"
	"parlour/nat"
	"parlour/rat"
)

// natural returns the natural number of a text of digits.
func natural(s string) api.Nat {
	n, f := nat.Parse(s)
	if f.Err != api.OK {
		panic(s)
	}
	return n
}

// number returns the number of a text, in lowest terms or not: its parts are just as they stand there.
func number(s string) api.Rat {
	digits, neg := strings.CutPrefix(s, "-")
	num, den, divided := strings.Cut(digits, "/")
	if !divided {
		den = "1"
	}
	return api.Rat{Neg: neg, Num: natural(num), Den: natural(den)}
}

// repeat returns a list of n equal limbs.
func repeat(n int, limb uint32) api.Nat { return slices.Repeat(api.Nat{limb}, n) }

// greatest returns the greatest natural number: all its digits are 9.
func greatest() api.Nat { return repeat(api.MaxLimbs, 999999999) }

// tens returns a power of ten in digits.
func tens(exponent int) string { return "1" + strings.Repeat("0", exponent) }

// nines returns the greatest natural number in digits, less the one below it. Half of the greatest one lies between the natural numbers lowHalf and highHalf.
func nines() string    { return strings.Repeat("9", 9216) }
func less() string     { return strings.Repeat("9", 9215) + "8" }
func lowHalf() string  { return "4" + strings.Repeat("9", 9215) }
func highHalf() string { return "5" + strings.Repeat("0", 9215) }

func equal(a, b api.Rat) bool {
	return a.Neg == b.Neg && slices.Equal(a.Num, b.Num) && slices.Equal(a.Den, b.Den)
}

// empty reports whether a number is the zero value of its type.
func empty(a api.Rat) bool { return equal(a, api.Rat{}) }

// short cuts a number for a message.
func short(a api.Rat) api.Rat {
	return api.Rat{Neg: a.Neg, Num: a.Num[:min(len(a.Num), 6)], Den: a.Den[:min(len(a.Den), 6)]}
}

// is checks that a result is the number with this text.
func is(t *testing.T, what string, got api.Rat, e api.Errno, want string) {
	t.Helper()
	if e != api.OK || !equal(got, number(want)) {
		t.Errorf("%s: %v, %v, not %.60s", what, short(got), e, want)
	}
}

// fails checks that there is an error, and no number.
func fails(t *testing.T, what string, got api.Rat, e, want api.Errno) {
	t.Helper()
	if e != want || !empty(got) {
		t.Errorf("%s: %v, %v, not %v", what, short(got), e, want)
	}
}

// must returns a valid result that has no error.
func must(t *testing.T) func(a api.Rat, e api.Errno) api.Rat {
	return func(a api.Rat, e api.Errno) api.Rat {
		t.Helper()
		if e != api.OK || rat.Check(a) != api.OK {
			t.Fatalf("%v, %v", short(a), e)
		}
		return a
	}
}

// compared returns how two valid numbers compare.
func compared(t *testing.T, a, b api.Rat) int {
	t.Helper()
	o, e := rat.Cmp(a, b)
	if e != api.OK || o < -1 || o > 1 {
		t.Fatal(short(a), short(b), o, e)
	}
	return o
}

// binary is a function of two numbers.
type binary func(a, b api.Rat) (api.Rat, api.Errno)

func binaries() map[string]binary {
	return map[string]binary{"Add": rat.Add, "Sub": rat.Sub, "Mul": rat.Mul, "Div": rat.Div, "Simple": rat.Simple}
}

// unary is a function of one number.
type unary func(a api.Rat) (api.Rat, api.Errno)

func unaries() map[string]unary { return map[string]unary{"Floor": rat.Floor, "Ceil": rat.Ceil} }

// source makes numbers that look as if by chance, always the same ones.
type source uint64

func (s *source) below(n int) int {
	*s = *s*6364136223846793005 + 1442695040888963407
	return int(uint64(*s) >> 33 % uint64(n))
}

// natural returns a natural number of at most size limbs, many of which are small or at the ends of their range.
func (s *source) natural(size int) api.Nat {
	out := make(api.Nat, s.below(size+1))
	edges := []uint32{0, 1, 2, 6, 999999998, 999999999}
	plain := s.below(2) == 0
	for i := range out {
		if out[i] = edges[s.below(len(edges))]; plain {
			out[i] = uint32(s.below(api.Limb))
		}
	}
	for len(out) > 0 && out[len(out)-1] == 0 {
		out = out[:len(out)-1]
	}
	return out
}

// number returns a number whose parts have at most size limbs.
func (s *source) number(size int) api.Rat {
	den := s.natural(size)
	if len(den) == 0 {
		den = api.Nat{uint32(1 + s.below(12))}
	}
	a, e := rat.Make(s.below(2) == 0, s.natural(size), den)
	if e != api.OK {
		panic(e)
	}
	return a
}

// tiny returns a number with small parts: so equal ones, and common divisors, come up often.
func (s *source) tiny() api.Rat {
	a, e := rat.Of(s.below(25)-12, 1+s.below(12))
	if e != api.OK {
		panic(e)
	}
	return a
}

// triples calls f with numbers of all sizes, many of them small.
func triples(t *testing.T, f func(t *testing.T, a, b, c api.Rat)) {
	s := source(1)
	for range 2000 {
		f(t, s.tiny(), s.tiny(), s.tiny())
		f(t, s.number(6), s.number(6), s.number(4))
		f(t, s.number(3), s.tiny(), s.number(1))
	}
	for range 5 {
		f(t, s.number(80), s.number(80), s.number(80))
	}
}
