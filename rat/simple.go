package rat

import (
	"parlour/api"
	"parlour/nat"
)

// span is an interval of numbers that are not negative, with both ends.
type span struct{ lo, hi fraction }

// Simple returns the simplest number of the interval from lo to hi.
func Simple(lo, hi api.Rat) (api.Rat, api.Errno) {
	if e := checkBoth(lo, hi); e != api.OK {
		return api.Rat{}, e
	}
	if order(lo, hi) > 0 {
		return api.Rat{}, api.ErrOrder
	}
	side := numerator(lo).side
	switch {
	case side != numerator(hi).side:
		return number(none, fraction{nil, one()}), api.OK
	case side == minus:
		lo, hi = hi, lo
	}
	return number(side, simplest(span{parts(lo), parts(hi)})), api.OK
}

// simplest returns the least integer of an interval. If there is none, all its numbers have the same integer part and a rest, and the simplest one has the rest whose reciprocal is simplest.
func simplest(s span) fraction {
	low, rest := divide(s.lo.num, s.lo.den)
	if len(rest) == 0 {
		return fraction{low, one()}
	}
	high, highRest := divide(s.hi.num, s.hi.den)
	if compare(low, high) < 0 {
		next, _ := nat.Add(low, one())
		return fraction{next, one()}
	}
	turned := simplest(span{fraction{s.hi.den, highRest}, fraction{s.lo.den, rest}})
	// Neither part of the simplest number is greater than that of an end: so both are short enough.
	num, _ := nat.Mul(low, turned.num)
	num, _ = nat.Add(num, turned.den)
	return fraction{num, turned.num}
}
