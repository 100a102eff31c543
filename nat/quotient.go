package nat

import (
	"slices"

	"parlour/api"
)

// Div returns the quotient of two numbers, rounded down, and the remainder.
func Div(a, b api.Nat) (q, r api.Nat, e api.Errno) {
	if e := checkAll(a, b); e != api.OK {
		return nil, nil, e
	}
	if len(b) == 0 {
		return nil, nil, api.ErrZero
	}
	q, r = divide(a, b)
	return q, r, api.OK
}

// divide returns quotient and remainder for a divisor that is not 0.
func divide(a, b api.Nat) (q, r api.Nat) {
	switch {
	case compare(a, b) < 0:
		return nil, slices.Clone(a)
	case len(a) <= 2:
		x, y := toWord(a), toWord(b)
		return fromWord(x / y), fromWord(x % y)
	case len(b) == 1:
		q, rest := divideLimb(a, b[0])
		return q, fromWord(uint64(rest))
	}
	return divideLong(a, b)
}

func divideLimb(a api.Nat, limb uint32) (q api.Nat, rest uint32) {
	q = make(api.Nat, len(a))
	divisor := uint64(limb)
	var carry uint64
	for i := len(a) - 1; i >= 0; i-- {
		x := carry*api.Limb + uint64(a[i])
		q[i] = uint32(x / divisor)
		carry = x % divisor
	}
	return trim(q), uint32(carry)
}

// divideLong divides by a number of two limbs or more that is not greater than a. Both are multiplied by the same number first, so that the divisor's highest limb is at least Limb/2: only then a guess from the highest limbs is never more than 2 too great.
func divideLong(a, b api.Nat) (q, r api.Nat) {
	factor := api.Limb / (b[len(b)-1] + 1)
	rest := scaled(a, factor, len(a)+1)
	divisor := scaled(b, factor, len(b))
	q = make(api.Nat, len(a)-len(b)+1)
	for i := len(q) - 1; i >= 0; i-- {
		part := rest[i : i+len(b)+1]
		limb := guess(part, divisor)
		if subtract(part, divisor, limb) {
			restore(part, divisor)
			limb--
		}
		q[i] = uint32(limb)
	}
	r, _ = divideLimb(trim(rest), factor)
	return trim(q), r
}

// scaled returns the lowest size limbs of n times a factor.
func scaled(n api.Nat, factor uint32, size int) api.Nat {
	out := make(api.Nat, size)
	var carry uint64
	for i := range out {
		if i < len(n) {
			carry += uint64(n[i]) * uint64(factor)
		}
		out[i] = uint32(carry % api.Limb)
		carry /= api.Limb
	}
	return out
}

// guess returns the quotient of part, which has one limb more, and divisor, as the three highest limbs of the one and the two highest of the other tell it: the right one, or rarely 1 too great.
func guess(part, divisor api.Nat) uint64 {
	size := len(divisor)
	top, next := uint64(divisor[size-1]), uint64(divisor[size-2])
	high := uint64(part[size])*api.Limb + uint64(part[size-1])
	limb, rest := high/top, high%top
	for limb >= api.Limb || limb*next > rest*api.Limb+uint64(part[size-2]) {
		limb--
		rest += top
		if rest >= api.Limb {
			break
		}
	}
	return limb
}

// subtract takes limb times divisor from part, and reports whether it was too much; then part wraps around.
func subtract(part, divisor api.Nat, limb uint64) bool {
	var carry uint64
	for i := range part {
		if i < len(divisor) {
			carry += limb * uint64(divisor[i])
		}
		low := uint32(carry % api.Limb)
		carry /= api.Limb
		if part[i] < low {
			part[i] += api.Limb
			carry++
		}
		part[i] -= low
	}
	return carry > 0
}

// restore adds divisor to a part that has wrapped around, which then does so once more.
func restore(part, divisor api.Nat) {
	var carry uint32
	for i := range part {
		limb := part[i] + carry
		if i < len(divisor) {
			limb += divisor[i]
		}
		carry = 0
		if limb >= api.Limb {
			limb -= api.Limb
			carry = 1
		}
		part[i] = limb
	}
}
