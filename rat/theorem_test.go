package rat_test

import (
	"cmp"
	"testing"

	"parlour/api"
	"parlour/rat"
)

// prime is a modulus that divides almost no part of a number.
const prime = 2147483647

// rest returns the remainder of a natural number and the prime.
func rest(n api.Nat) uint64 {
	var out uint64
	for i := len(n) - 1; i >= 0; i-- {
		out = (out*api.Limb + uint64(n[i])) % prime
	}
	return out
}

// class returns what a number is modulo the prime, found without the package; no other number is likely to be the same.
func class(t *testing.T, a api.Rat) uint64 {
	den := rest(a.Den)
	if den == 0 {
		t.Fatal(a, "has no class")
	}
	inverse, square := uint64(1), den
	for exponent := prime - 2; exponent > 0; exponent /= 2 {
		if exponent%2 == 1 {
			inverse = inverse * square % prime
		}
		square = square * square % prime
	}
	out := rest(a.Num) * inverse % prime
	if a.Neg {
		return (prime - out) % prime
	}
	return out
}

// P2.2, P2.6
func TestClasses(t *testing.T) {
	triples(t, func(t *testing.T, a, b, c api.Rat) {
		do := must(t)
		x, y := class(t, a), class(t, b)
		if s := do(rat.Add(a, b)); class(t, s) != (x+y)%prime {
			t.Fatal(a, b, s)
		}
		if d := do(rat.Sub(a, b)); class(t, d) != (x+prime-y)%prime {
			t.Fatal(a, b, d)
		}
		if p := do(rat.Mul(a, b)); class(t, p) != x*y%prime {
			t.Fatal(a, b, p)
		}
		if len(b.Num) == 0 {
			return
		}
		if q := do(rat.Div(a, b)); class(t, q)*y%prime != x {
			t.Fatal(a, b, q)
		}
	})
}

// P2.6
func TestField(t *testing.T) {
	zero, one := number("0"), number("1")
	triples(t, func(t *testing.T, a, b, c api.Rat) {
		do := must(t)
		sum, product := do(rat.Add(a, b)), do(rat.Mul(a, b))
		laws := map[string][2]api.Rat{
			"a+b is b+a":           {sum, do(rat.Add(b, a))},
			"a*b is b*a":           {product, do(rat.Mul(b, a))},
			"(a+b)+c is a+(b+c)":   {do(rat.Add(sum, c)), do(rat.Add(a, do(rat.Add(b, c))))},
			"(a*b)*c is a*(b*c)":   {do(rat.Mul(product, c)), do(rat.Mul(a, do(rat.Mul(b, c))))},
			"(a+b)*c is a*c+b*c":   {do(rat.Mul(sum, c)), do(rat.Add(do(rat.Mul(a, c)), do(rat.Mul(b, c))))},
			"(a+b)-b is a":         {do(rat.Sub(sum, b)), a},
			"(a-b)+b is a":         {do(rat.Add(do(rat.Sub(a, b)), b)), a},
			"a-b is the other b-a": {do(rat.Sub(a, b)), do(rat.Sub(zero, do(rat.Sub(b, a))))},
			"a+0 is a":             {do(rat.Add(a, zero)), a},
			"a*1 is a":             {do(rat.Mul(a, one)), a},
			"a-a is 0":             {do(rat.Sub(a, a)), zero},
			"a*0 is 0":             {do(rat.Mul(a, zero)), zero},
		}
		if len(b.Num) > 0 {
			laws["(a*b):b is a"] = [2]api.Rat{do(rat.Div(product, b)), a}
			laws["(a:b)*b is a"] = [2]api.Rat{do(rat.Mul(do(rat.Div(a, b)), b)), a}
			laws["b:b is 1"] = [2]api.Rat{do(rat.Div(b, b)), one}
		}
		for what, pair := range laws {
			if !equal(pair[0], pair[1]) {
				t.Fatal(what, a, b, c, pair)
			}
		}
	})
}

// P2.7
func TestOrder(t *testing.T) {
	triples(t, func(t *testing.T, a, b, c api.Rat) {
		do := must(t)
		order := compared(t, a, b)
		if compared(t, b, a) != -order || (order == 0) != equal(a, b) || compared(t, a, a) != 0 {
			t.Fatal(a, b, order)
		}
		difference := do(rat.Sub(a, b))
		if side := compared(t, difference, number("0")); side != order || difference.Neg != (order < 0) {
			t.Fatal(a, b, order, difference)
		}
		if o := compared(t, do(rat.Add(a, c)), do(rat.Add(b, c))); o != order {
			t.Fatal(a, b, c, order, o)
		}
		side := cmp.Compare(len(c.Num), 0)
		if c.Neg {
			side = -1
		}
		if o := compared(t, do(rat.Mul(a, c)), do(rat.Mul(b, c))); o != order*side {
			t.Fatal(a, b, c, order, o)
		}
		if order <= 0 && compared(t, b, c) <= 0 && compared(t, a, c) > 0 {
			t.Fatal(a, b, c, "have no order")
		}
	})
}
