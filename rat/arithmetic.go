package rat

import (
	"parlour/api"
	"parlour/nat"
)

// Add returns the sum of two numbers.
func Add(a, b api.Rat) (api.Rat, api.Errno) {
	if e := checkBoth(a, b); e != api.OK {
		return api.Rat{}, e
	}
	return sum(a, b)
}

// Sub returns the difference of two numbers.
func Sub(a, b api.Rat) (api.Rat, api.Errno) {
	if e := checkBoth(a, b); e != api.OK {
		return api.Rat{}, e
	}
	return sum(a, negated(b))
}

// Mul returns the product of two numbers.
func Mul(a, b api.Rat) (api.Rat, api.Errno) {
	if e := checkBoth(a, b); e != api.OK {
		return api.Rat{}, e
	}
	return product(a, b)
}

// Div returns the quotient of two numbers.
func Div(a, b api.Rat) (api.Rat, api.Errno) {
	if e := checkBoth(a, b); e != api.OK {
		return api.Rat{}, e
	}
	if len(b.Num) == 0 {
		return api.Rat{}, api.ErrZero
	}
	return product(a, api.Rat{Neg: b.Neg, Num: b.Den, Den: b.Num})
}

// pair is a part of one number and one of another that are joined.
type pair[T any] struct{ left, right T }

// fold joins the pairs of two numbers into one result, up to the first error.
func fold[T, R any](pairs [2]pair[T], first R, join func(so R, p pair[T]) (R, api.Errno)) (R, api.Errno) {
	so := first
	for _, p := range pairs {
		next, e := join(so, p)
		if e != api.OK {
			return first, e
		}
		so = next
	}
	return so, api.OK
}

// sum adds up the products of each numerator and what the other denominator has beyond the common part of both.
func sum(a, b api.Rat) (api.Rat, api.Errno) {
	common := divisor(a.Den, b.Den)
	restA, restB := quotient(a.Den, common), quotient(b.Den, common)
	terms := [2]pair[whole]{{numerator(a), signed(false, restB)}, {numerator(b), signed(false, restA)}}
	total, e := fold(terms, signed(false, nil), func(so whole, p pair[whole]) (whole, api.Errno) {
		term, e := p.left.times(p.right)
		if e != api.OK {
			return whole{}, e
		}
		return so.plus(term)
	})
	if e != api.OK {
		return api.Rat{}, e
	}
	// A prime of restA or restB divides one of the two terms only, so the sum can be reduced just by what divides the common part.
	shared := divisor(total.size, common)
	den, e := nat.Mul(restA, quotient(b.Den, shared))
	if e != api.OK {
		return api.Rat{}, e
	}
	return number(total.side, fraction{quotient(total.size, shared), den}), api.OK
}

// product reduces each numerator and the other denominator before they are multiplied: so both parts are in lowest terms, and no number on the way is longer than they are.
func product(a, b api.Rat) (api.Rat, api.Errno) {
	crosswise := [2]pair[api.Nat]{{a.Num, b.Den}, {b.Num, a.Den}}
	f, e := fold(crosswise, fraction{one(), one()}, func(so fraction, p pair[api.Nat]) (fraction, api.Errno) {
		common := divisor(p.left, p.right)
		num, e := nat.Mul(so.num, quotient(p.left, common))
		if e != api.OK {
			return fraction{}, e
		}
		den, e := nat.Mul(so.den, quotient(p.right, common))
		return fraction{num, den}, e
	})
	if e != api.OK {
		return api.Rat{}, e
	}
	return number(numerator(a).side.times(numerator(b).side), f), api.OK
}
