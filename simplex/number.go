package simplex

import (
	"cmp"
	"slices"

	"parlour/api"
)

// zero and one return these numbers, each time in memory of their own.
func zero() api.Rat { return api.Rat{Den: api.Nat{1}} }

func one() api.Rat { return api.Rat{Num: api.Nat{1}, Den: api.Nat{1}} }

func isZero(x api.Rat) bool { return len(x.Num) == 0 }

func isPositive(x api.Rat) bool { return !isZero(x) && !x.Neg }

func isNegative(x api.Rat) bool { return x.Neg }

// negated returns -x, which shares the limbs of x.
func negated(x api.Rat) api.Rat {
	x.Neg = isPositive(x)
	return x
}

// clone returns a number in memory of its own, clones a list of them.
func clone(x api.Rat) api.Rat {
	return api.Rat{Neg: x.Neg, Num: slices.Clone(x.Num), Den: slices.Clone(x.Den)}
}

func clones(v api.Vec) api.Vec { return each(v, clone) }

// zeros returns a list of zeros.
func zeros(size int) api.Vec {
	return each(make(api.Vec, size), func(api.Rat) api.Rat { return zero() })
}

// each returns what a function makes of the elements of a list.
func each[S ~[]A, A any](list S, f func(x A) A) S {
	out := make(S, len(list))
	for i, x := range list {
		out[i] = f(x)
	}
	return out
}

// compareQuotients returns -1, 0 or 1: whether a/b is less than c/d, equal, or greater. None of them is negative. The quotients themselves may be too long for rat.
func compareQuotients(a, b, c, d api.Rat) int {
	return compare(product(a.Num, b.Den, c.Den, d.Num), product(c.Num, d.Den, a.Den, b.Num))
}

// product returns a product of natural numbers, however long it gets.
func product(factors ...api.Nat) api.Nat {
	out := api.Nat{1}
	for _, n := range factors {
		out = times(out, n)
	}
	return out
}

func times(a, b api.Nat) api.Nat {
	out := make(api.Nat, len(a)+len(b))
	for i, x := range a {
		var carry uint64
		for j, y := range b {
			carry += uint64(out[i+j]) + uint64(x)*uint64(y)
			out[i+j] = uint32(carry % api.Limb)
			carry /= api.Limb
		}
		out[i+len(b)] = uint32(carry)
	}
	for len(out) > 0 && out[len(out)-1] == 0 {
		out = out[:len(out)-1]
	}
	return out
}

// compare returns -1, 0 or 1: whether a is less than b, equal, or greater.
func compare(a, b api.Nat) int {
	order := cmp.Compare(len(a), len(b))
	for i := len(a) - 1; i >= 0 && order == 0; i-- {
		order = cmp.Compare(a[i], b[i])
	}
	return order
}
