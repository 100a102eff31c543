package nat

import (
	"math/bits"
	"slices"

	"parlour/api"
)

// leadingBits is how many bits of the longer number tell the quotients. Factors of steps stay below the root of 2^leadingBits, so that a limb times each of two of them, and a carry, fit into an int64.
const leadingBits = 62

// Gcd returns the greatest common divisor of two numbers.
func Gcd(a, b api.Nat) (api.Nat, api.Errno) {
	if e := checkAll(a, b); e != api.OK {
		return nil, e
	}
	return commonDivisor(a, b), api.OK
}

// Lcm returns the least common multiple of two numbers.
func Lcm(a, b api.Nat) (api.Nat, api.Errno) {
	if e := checkAll(a, b); e != api.OK {
		return nil, e
	}
	if len(a) == 0 || len(b) == 0 {
		return nil, api.OK
	}
	q, _ := divide(a, commonDivisor(a, b))
	return multiply(q, b)
}

// commonDivisor follows Euclid. While the numbers are long, several of his divisions are made at once (Lehmer): their leading digits tell most quotients.
func commonDivisor(a, b api.Nat) api.Nat {
	if compare(a, b) < 0 {
		a, b = b, a
	}
	for len(b) > 2 {
		s := leadingStep(a, b)
		if s.idle() {
			_, r := divide(a, b)
			a, b = b, r
			continue
		}
		a, b = combine(a, b, s.a, s.b), combine(a, b, s.c, s.d)
	}
	if len(b) == 0 {
		return slices.Clone(a)
	}
	if len(a) > 2 {
		_, r := divide(a, b)
		a, b = b, r
	}
	return fromWord(wordDivisor(toWord(a), toWord(b)))
}

func wordDivisor(x, y uint64) uint64 {
	for y > 0 {
		x, y = y, x%y
	}
	return x
}

// step stands for some of Euclid's divisions: they replace x by a*x + b*y, and y by c*x + d*y.
type step struct{ a, b, c, d int64 }

// idle reports whether a step makes no division.
func (s step) idle() bool { return s.b == 0 }

// then returns the step that makes one more division behind s, with the quotient q.
func (s step) then(q int64) step { return step{s.c, s.d, s.a - q*s.c, s.b - q*s.d} }

// leadingStep returns divisions that are certain from the leading digits x of a and y of b. The numbers lie between x and x+1, and y and y+1 (in units of the last of these digits): a quotient is certain if it is the same at both of the outermost corners. As it leaves no negative rest there, no factor is greater than the new x; and the greatest factor times the new x is at most the first x, below 2^leadingBits.
func leadingStep(a, b api.Nat) step {
	shift := leadingShift(a)
	x, y := leading(a, len(a), shift), leading(b, len(a), shift)
	s := step{1, 0, 0, 1}
	for y+s.c != 0 && y+s.d != 0 {
		q := (x + s.a) / (y + s.c)
		if q != (x+s.b)/(y+s.d) {
			break
		}
		s = s.then(q)
		x, y = y, x-q*y
	}
	return s
}

// leadingShift returns how many bits more than leadingBits the three highest limbs of a have.
func leadingShift(a api.Nat) int {
	high, low := topLimbs(a, len(a))
	size := bits.Len64(low)
	if high > 0 {
		size = 64 + bits.Len64(high)
	}
	return max(0, size-leadingBits)
}

// leading returns the limbs of n at the three highest places below size, less the lowest shift bits.
func leading(n api.Nat, size, shift int) int64 {
	high, low := topLimbs(n, size)
	return int64(high<<(64-shift) | low>>shift)
}

// topLimbs returns the limbs of n at the three highest places below size, as one number of 128 bits.
func topLimbs(n api.Nat, size int) (high, low uint64) {
	var top [3]uint64
	for i := range top {
		if place := size - 1 - i; place < len(n) {
			top[i] = uint64(n[place])
		}
	}
	high, low = bits.Mul64(top[0]*api.Limb+top[1], api.Limb)
	low, over := bits.Add64(low, top[2], 0)
	return high + over, low
}

// combine returns p*a + q*b, which must not be negative, nor longer than a or b.
func combine(a, b api.Nat, p, q int64) api.Nat {
	out := make(api.Nat, 0, max(len(a), len(b)))
	var carry int64
	for x, y := range pairs(a, b) {
		carry += p*int64(x) + q*int64(y)
		limb := carry % api.Limb
		carry /= api.Limb
		if limb < 0 {
			limb += api.Limb
			carry--
		}
		out = append(out, uint32(limb))
	}
	return trim(out)
}
