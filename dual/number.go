package dual

import (
	"iter"
	"slices"

	"parlour/api"
	"parlour/rat"
)

// The numbers of this package are in lowest terms if rat can bring them there. Those with parts that are too long for rat are exact, too: whether a point is feasible can be said of all valid numbers.

func zero() api.Rat { return api.Rat{Den: api.Nat{1}} }

func zeros(size int) api.Vec { return slices.Repeat(api.Vec{zero()}, size) }

func isZero(x api.Rat) bool { return len(x.Num) == 0 }

func isPositive(x api.Rat) bool { return !isZero(x) && !x.Neg }

func equal(a, b api.Rat) bool { return isZero(difference(a, b)) }

// opposite returns -x, in memory of its own.
func opposite(x api.Rat) api.Rat {
	return api.Rat{Neg: isPositive(x), Num: slices.Clone(x.Num), Den: slices.Clone(x.Den)}
}

func opposites(v api.Vec) api.Vec {
	var out api.Vec
	for _, x := range v {
		out = append(out, opposite(x))
	}
	return out
}

// zip yields the elements of two lists side by side.
func zip[A, B any](list []A, other []B) iter.Seq2[A, B] {
	return func(yield func(a A, b B) bool) {
		for i, a := range list[:min(len(list), len(other))] {
			if !yield(a, other[i]) {
				return
			}
		}
	}
}

// dot returns the sum of the products of two lists.
func dot(list, other api.Vec) api.Rat {
	total := zero()
	for a, b := range zip(list, other) {
		total = sum(total, product(a, b))
	}
	return total
}

func difference(a, b api.Rat) api.Rat { return sum(a, opposite(b)) }

func sum(a, b api.Rat) api.Rat {
	if c, e := rat.Add(a, b); e == api.OK {
		return c
	}
	neg, num := total(term{a.Neg, a.Num, b.Den}, term{b.Neg, b.Num, a.Den})
	return lowest(neg, num, times(a.Den, b.Den))
}

func product(a, b api.Rat) api.Rat {
	if c, e := rat.Mul(a, b); e == api.OK {
		return c
	}
	return lowest(a.Neg != b.Neg, times(a.Num, b.Num), times(a.Den, b.Den))
}

// lowest returns a quotient, in lowest terms unless rat finds it too long.
func lowest(neg bool, num, den api.Nat) api.Rat {
	if len(num) == 0 {
		return zero()
	}
	if x, e := rat.Make(neg, num, den); e == api.OK {
		return x
	}
	return api.Rat{Neg: neg, Num: num, Den: den}
}
