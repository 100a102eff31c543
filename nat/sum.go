package nat

import (
	"iter"

	"parlour/api"
)

// Add returns the sum of two numbers.
func Add(a, b api.Nat) (api.Nat, api.Errno) {
	if e := checkAll(a, b); e != api.OK {
		return nil, e
	}
	return fit(sum(a, b))
}

// Sub returns the difference of two numbers.
func Sub(a, b api.Nat) (api.Nat, api.Errno) {
	if e := checkAll(a, b); e != api.OK {
		return nil, e
	}
	if compare(a, b) < 0 {
		return nil, api.ErrRange
	}
	return difference(a, b), api.OK
}

// pairs goes over the limbs of two numbers at once, from the lowest place to the highest one that either has.
func pairs(a, b api.Nat) iter.Seq2[uint32, uint32] {
	return func(yield func(x, y uint32) bool) {
		for i := range max(len(a), len(b)) {
			var x, y uint32
			if i < len(a) {
				x = a[i]
			}
			if i < len(b) {
				y = b[i]
			}
			if !yield(x, y) {
				return
			}
		}
	}
}

func sum(a, b api.Nat) api.Nat {
	out := make(api.Nat, 0, max(len(a), len(b))+1)
	var carry uint32
	for x, y := range pairs(a, b) {
		limb := x + y + carry
		carry = 0
		if limb >= api.Limb {
			limb -= api.Limb
			carry = 1
		}
		out = append(out, limb)
	}
	return trim(append(out, carry))
}

// difference returns a less b, which must not be greater.
func difference(a, b api.Nat) api.Nat {
	out := make(api.Nat, 0, len(a))
	var borrow uint32
	for x, y := range pairs(a, b) {
		y += borrow
		borrow = 0
		if x < y {
			x += api.Limb
			borrow = 1
		}
		out = append(out, x-y)
	}
	return trim(out)
}
