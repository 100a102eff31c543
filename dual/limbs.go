package dual

import "parlour/api"

// term is a product of two natural numbers of any length, or minus this product.
type term struct {
	neg         bool
	left, right api.Nat
}

func times(a, b api.Nat) api.Nat {
	_, n := total(term{false, a, b})
	return n
}

// total returns the sum of terms: whether it is negative, and how far it is from 0.
func total(terms ...term) (neg bool, size api.Nat) {
	length := 1
	for _, t := range terms {
		length = max(length, len(t.left)+len(t.right)+1)
	}
	digits := make([]int64, length)
	for _, t := range terms {
		t.addTo(digits)
	}
	if neg = isBelow(digits); neg {
		for i := range digits {
			digits[i] = -digits[i]
		}
	}
	return neg, limbs(digits)
}

// addTo adds a term to digits, each of which may be of either sign, but is smaller than api.Limb.
func (t term) addTo(digits []int64) {
	for i, a := range t.left {
		factor := int64(a)
		if t.neg {
			factor = -factor
		}
		over := int64(0)
		for j, b := range t.right {
			over += digits[i+j] + factor*int64(b)
			digits[i+j] = over % api.Limb
			over /= api.Limb
		}
		for j := i + len(t.right); over != 0; j++ {
			over += digits[j]
			digits[j] = over % api.Limb
			over /= api.Limb
		}
	}
}

// isBelow reports whether digits stand for a negative number: the first one from above that is not 0 outweighs all others.
func isBelow(digits []int64) bool {
	for i := len(digits) - 1; i >= 0; i-- {
		if digits[i] != 0 {
			return digits[i] < 0
		}
	}
	return false
}

// limbs returns the limbs of a number that is not negative. Digits below 0 borrow from the next one.
func limbs(digits []int64) api.Nat {
	out := make(api.Nat, len(digits))
	length, borrowed := 0, int64(0)
	for i, d := range digits {
		d -= borrowed
		borrowed = 0
		if d < 0 {
			d += api.Limb
			borrowed = 1
		}
		out[i] = uint32(d)
		if d > 0 {
			length = i + 1
		}
	}
	return out[:length]
}
