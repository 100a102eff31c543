package nat_test

import (
	"cmp"
	"slices"
	"strings"
	"testing"

	"parlour/api"
	"parlour/nat"
)

// triples calls f with numbers of all sizes, many of them small.
func triples(t *testing.T, f func(t *testing.T, a, b, c api.Nat)) {
	s := source(1)
	for range 3000 {
		f(t, s.number(8), s.number(8), s.number(5))
	}
	for range 10 {
		f(t, s.number(250), s.number(250), s.number(250))
	}
}

// P1.5
func TestSumsAndProducts(t *testing.T) {
	triples(t, func(t *testing.T, a, b, c api.Nat) {
		do := must(t)
		sum, product := do(nat.Add(a, b)), do(nat.Mul(a, b))
		for _, m := range moduli() {
			if rest(sum, m) != (rest(a, m)+rest(b, m))%m || rest(product, m) != rest(a, m)*rest(b, m)%m {
				t.Fatal(a, b, "wrong modulo", m)
			}
		}
		for what, pair := range map[string][2]api.Nat{
			"a+b is b+a":             {sum, do(nat.Add(b, a))},
			"a*b is b*a":             {product, do(nat.Mul(b, a))},
			"(a+b)+c is a+(b+c)":     {do(nat.Add(sum, c)), do(nat.Add(a, do(nat.Add(b, c))))},
			"(a*b)*c is a*(b*c)":     {do(nat.Mul(product, c)), do(nat.Mul(a, do(nat.Mul(b, c))))},
			"(a+b)*c is a*c+b*c":     {do(nat.Mul(sum, c)), do(nat.Add(do(nat.Mul(a, c)), do(nat.Mul(b, c))))},
			"(a+b)-b is a":           {do(nat.Sub(sum, b)), a},
			"(a+b)-a is b":           {do(nat.Sub(sum, a)), b},
			"a*a is the square of a": {do(nat.Mul(a, a)), do(nat.Pow(a, 2))},
		} {
			if !slices.Equal(pair[0], pair[1]) {
				t.Fatal(what, a, b, c, pair)
			}
		}
	})
}

// P1.5
func TestPowersMultiply(t *testing.T) {
	s := source(2)
	do := must(t)
	for range 300 {
		a, i, k := s.number(5), s.below(40), s.below(40)
		product := do(nat.Mul(do(nat.Pow(a, i)), do(nat.Pow(a, k))))
		if !slices.Equal(product, do(nat.Pow(a, i+k))) {
			t.Fatal(a, i, k)
		}
	}
}

// divides checks the quotient and the remainder of two numbers.
func divides(t *testing.T, a, b api.Nat) {
	t.Helper()
	if len(b) == 0 {
		return
	}
	q, r, e := nat.Div(a, b)
	if e != api.OK || nat.Check(q) != api.OK || nat.Check(r) != api.OK {
		t.Fatal(a, b, q, r, e)
	}
	do := must(t)
	if !slices.Equal(do(nat.Add(do(nat.Mul(q, b)), r)), a) {
		t.Fatal(a, b, q, r, "do not add up")
	}
	if o, _ := nat.Cmp(r, b); o >= 0 {
		t.Fatal(a, b, q, r, "the remainder is too great")
	}
}

// P1.6
func TestQuotientAndRemainder(t *testing.T) {
	triples(t, func(t *testing.T, a, b, c api.Nat) {
		divides(t, a, b)
		divides(t, a, c)
		product := must(t)(nat.Mul(b, c))
		divides(t, product, b)
		if len(product) > 0 {
			divides(t, must(t)(nat.Sub(product, limbs(1))), c)
		}
	})
}

// P1.6: with limbs at the ends and in the middle of their range all kinds of wrong guesses come up.
func TestQuotientsOfEdges(t *testing.T) {
	edges := []uint32{0, 1, 499999999, 500000000, 999999999}
	lists := func(size int) []api.Nat {
		out := []api.Nat{nil}
		for from := 0; size > 0; size-- {
			to := len(out)
			for _, n := range out[from:to] {
				for _, limb := range edges {
					out = append(out, append(slices.Clone(n), limb))
				}
			}
			from = to
		}
		return slices.DeleteFunc(out, func(n api.Nat) bool { return nat.Check(n) != api.OK })
	}
	for _, a := range lists(4) {
		for _, b := range lists(3) {
			divides(t, a, b)
		}
	}
}

// P1.7
func TestDivisorsAndMultiples(t *testing.T) {
	triples(t, func(t *testing.T, a, b, c api.Nat) {
		do := must(t)
		x, y := do(nat.Mul(a, c)), do(nat.Mul(b, c))
		for _, pair := range [][2]api.Nat{{a, b}, {x, y}, {x, c}} {
			g, l := do(nat.Gcd(pair[0], pair[1])), do(nat.Lcm(pair[0], pair[1]))
			if !slices.Equal(do(nat.Mul(g, l)), do(nat.Mul(pair[0], pair[1]))) {
				t.Fatal(pair, g, l, "have another product")
			}
			if len(g) == 0 {
				continue
			}
			p, q := do(quotient(pair[0], g)), do(quotient(pair[1], g))
			if len(do(remainder(pair[0], g))) != 0 || len(do(remainder(pair[1], g))) != 0 {
				t.Fatal(pair, g, "is no divisor")
			}
			if !slices.Equal(do(nat.Gcd(p, q)), limbs(1)) {
				t.Fatal(pair, g, "is not the greatest divisor")
			}
		}
		if g := do(nat.Gcd(a, b)); !slices.Equal(do(nat.Gcd(x, y)), do(nat.Mul(g, c))) {
			t.Fatal(a, b, c, "lose a common factor")
		}
	})
}

// P1.7: the numbers of Fibonacci make Euclid's way longest.
func TestDivisorsOfFibonacci(t *testing.T) {
	do := must(t)
	a, b, c := limbs(1), limbs(1), number(sampleA)
	for range 2000 {
		a, b = b, do(nat.Add(a, b))
	}
	is(t, "Gcd", do(nat.Gcd(b, a)), api.OK, limbs(1))
	is(t, "Gcd", do(nat.Gcd(do(nat.Mul(a, c)), do(nat.Mul(b, c)))), api.OK, c)
	is(t, "Lcm", do(nat.Lcm(a, b)), api.OK, do(nat.Mul(a, b)))
}

// P1.8
func TestTextsAndNumbers(t *testing.T) {
	triples(t, func(t *testing.T, a, b, c api.Nat) {
		texts := []string{}
		for _, n := range []api.Nat{a, b, c} {
			s, e := nat.Text(n)
			back, f := nat.Parse(s)
			if e != api.OK || f != (api.Fault{}) || !slices.Equal(back, n) || !slices.Equal(number(s), n) {
				t.Fatal(n, s, back, e, f)
			}
			if d, e := nat.Digits(n); d != len(s) || e != api.OK {
				t.Fatal(n, s, d, e)
			}
			texts = append(texts, s)
		}
		byText := cmp.Or(cmp.Compare(len(texts[0]), len(texts[1])), strings.Compare(texts[0], texts[1]))
		if o, e := nat.Cmp(a, b); o != byText || e != api.OK {
			t.Fatal(texts, o, e)
		}
	})
}
