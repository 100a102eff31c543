package rat

import (
	"sort"

	"parlour/api"
	"parlour/nat"
)

// Floor returns the greatest integer that is at most a.
func Floor(a api.Rat) (api.Rat, api.Errno) {
	if e := Check(a); e != api.OK {
		return api.Rat{}, e
	}
	return floor(a), api.OK
}

// Ceil returns the least integer that is at least a.
func Ceil(a api.Rat) (api.Rat, api.Errno) {
	if e := Check(a); e != api.OK {
		return api.Rat{}, e
	}
	return negated(floor(negated(a))), api.OK
}

// Scale returns the greatest integer that is at most a*n.
func Scale(a api.Rat, n int) (int, api.Errno) {
	if e := Check(a); e != api.OK {
		return 0, e
	}
	if n < 0 {
		a = negated(a)
	}
	low, rest := split(a)
	factor := magnitude(n)
	// If these numbers are too long, so is the result: the rest adds less than the factor.
	multiple, e := low.times(signed(false, factor))
	if e != api.OK {
		return 0, e
	}
	total, e := multiple.plus(signed(false, share(fraction{rest, a.Den}, factor)))
	if e != api.OK {
		return 0, e
	}
	return total.toInt()
}

func floor(a api.Rat) api.Rat {
	low, _ := split(a)
	return number(low.side, fraction{low.size, one()})
}

// split returns the greatest integer that is at most a, and the rest's numerator: a is low + rest/a.Den.
func split(a api.Rat) (low whole, rest api.Nat) {
	size, rest := divide(a.Num, a.Den)
	if a.Neg && len(rest) > 0 {
		// There is a rest only if Den is at least 2: so the quotient is far from the limit.
		size, _ = nat.Add(size, one())
		rest, _ = nat.Sub(a.Den, rest)
	}
	return signed(a.Neg, size), rest
}

// share returns the greatest natural number that is at most f*n, for an f below 1 and an n of at most 2^63.
func share(f fraction, n api.Nat) api.Nat {
	if product, e := nat.Mul(f.num, n); e == api.OK {
		return quotient(product, f.den)
	}
	// The product alone is too long. So it is counted how many of the fractions 1/n to (n-1)/n are at most f.
	less, _ := nat.Sub(n, one())
	last, _ := nat.Int(less)
	return magnitude(sort.Search(last, func(i int) bool {
		return orderFractions(fraction{magnitude(i + 1), n}, f) > 0
	}))
}
