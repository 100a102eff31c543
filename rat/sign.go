package rat

import (
	"cmp"

	"parlour/api"
	"parlour/nat"
)

// sign is the side of 0 on which a number lies.
type sign int

// The signs, in the order of the numbers that have them.
const (
	minus sign = iota
	none
	plus
)

// products is the sign of a product, for the signs of both factors.
var products = [3][3]sign{
	{plus, none, minus},
	{none, none, none},
	{minus, none, plus},
}

func (s sign) times(t sign) sign { return products[s][t] }

// order returns -1, 0 or 1 for a sign, and signOf the sign of any int.
func (s sign) order() int { return int(s - none) }

func signOf(n int) sign { return none + sign(cmp.Compare(n, 0)) }

// whole is an integer: its side of 0, and its distance from it.
type whole struct {
	side sign
	size api.Nat
}

// signed returns a natural number, or its negative, as an integer.
func signed(neg bool, size api.Nat) whole {
	switch {
	case len(size) == 0:
		return whole{none, nil}
	case neg:
		return whole{minus, size}
	}
	return whole{plus, size}
}

// numerator returns the upper part of a number, with its sign.
func numerator(a api.Rat) whole { return signed(a.Neg, a.Num) }

// times returns a product, or ErrOver.
func (a whole) times(b whole) (whole, api.Errno) {
	size, e := nat.Mul(a.size, b.size)
	if e != api.OK {
		return whole{}, e
	}
	return whole{a.side.times(b.side), size}, api.OK
}

// plus returns a sum, or ErrOver.
func (a whole) plus(b whole) (whole, api.Errno) {
	if a.side == b.side {
		size, e := nat.Add(a.size, b.size)
		return whole{a.side, size}, e
	}
	if compare(a.size, b.size) < 0 {
		a, b = b, a
	}
	size, e := nat.Sub(a.size, b.size)
	return signed(a.side == minus, size), e
}

// toInt returns an integer as an int, or ErrOver.
func (a whole) toInt() (int, api.Errno) {
	if a.side != minus {
		return nat.Int(a.size)
	}
	// The least int has no counterpart above 0, but the next one has.
	less, _ := nat.Sub(a.size, one())
	n, e := nat.Int(less)
	if e != api.OK {
		return 0, e
	}
	return -n - 1, api.OK
}
