package nat

import (
	"math/bits"

	"parlour/api"
)

// maxPower is the greatest exponent of Pow.
const maxPower = 10000

// wordProducts is how many products of two limbs always have a sum below 2^64.
const wordProducts = 18

// Mul returns the product of two numbers.
func Mul(a, b api.Nat) (api.Nat, api.Errno) {
	if e := checkAll(a, b); e != api.OK {
		return nil, e
	}
	return multiply(a, b)
}

// Pow returns the power a^n.
func Pow(a api.Nat, n int) (api.Nat, api.Errno) {
	if e := Check(a); e != api.OK {
		return nil, e
	}
	if n < 0 || n > maxPower {
		return nil, api.ErrRange
	}
	// The bits of n are taken from the highest one on: so no number on the way is greater than the power, and one that is too long means that the power is.
	out := fromWord(1)
	for bit := bits.Len(uint(n)) - 1; bit >= 0; bit-- {
		var e api.Errno
		if out, e = multiply(out, out); e != api.OK {
			return nil, e
		}
		if n>>bit&1 == 0 {
			continue
		}
		if out, e = multiply(out, a); e != api.OK {
			return nil, e
		}
	}
	return out, api.OK
}

// multiply returns the product of two valid numbers, or ErrOver.
func multiply(a, b api.Nat) (api.Nat, api.Errno) {
	// A product other than 0 has as many limbs as both numbers together, or one less; for 0 the other number is short enough.
	if len(a)+len(b)-1 > api.MaxLimbs {
		return nil, api.ErrOver
	}
	return fit(product(a, b))
}

func product(a, b api.Nat) api.Nat {
	if len(a) == 1 && len(b) == 1 {
		return fromWord(uint64(a[0]) * uint64(b[0]))
	}
	out := make(api.Nat, len(a)+len(b))
	var c column
	for place := range out {
		end := min(place+1, len(a))
		for i := max(0, place-len(b)+1); i < end; i += wordProducts {
			c.collect(crossSum(a[i:min(i+wordProducts, end)], b[:place-i+1]))
		}
		out[place] = c.take()
	}
	return trim(out)
}

// crossSum multiplies the limbs of a, from the lowest one up, by those of b, from the highest one down, and adds up at most wordProducts products.
func crossSum(a, b api.Nat) uint64 {
	var sum uint64
	for i, limb := range a {
		sum += uint64(limb) * uint64(b[len(b)-1-i])
	}
	return sum
}

// column collects what stands at one place of a product, in 128 bits: the products of up to 1,024 pairs of limbs do not fit into 64.
type column struct{ high, low uint64 }

// collect adds carries to the column.
func (c *column) collect(carries ...uint64) {
	for _, x := range carries {
		var over uint64
		c.low, over = bits.Add64(c.low, x, 0)
		c.high += over
	}
}

// take returns the limb of the column's place, and leaves what is carried to the next place.
func (c *column) take() uint32 {
	high, rest := c.high/api.Limb, c.high%api.Limb
	low, limb := bits.Div64(rest, c.low, api.Limb)
	c.high, c.low = high, low
	return uint32(limb)
}
