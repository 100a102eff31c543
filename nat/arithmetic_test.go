package nat_test

import (
	"math"
	"testing"

	"parlour/api"
	"parlour/nat"
)

// sample is two numbers of 100 and 77 digits.
const (
	sampleA = "31415926535897932384626433832795028841971693993751058209749445923078164062862089986280348253421170679"
	sampleB = "27182818284590452353602874713526624977572470936999595749669676277240766303535"
)

// P1.2
func TestAdd(t *testing.T) {
	for _, c := range []struct{ a, b, want api.Nat }{
		{limbs(), limbs(), limbs()},
		{limbs(), limbs(5, 6), limbs(5, 6)},
		{limbs(1), limbs(2), limbs(3)},
		{limbs(999999999), limbs(1), limbs(0, 1)},
		{limbs(999999999), limbs(999999999), limbs(999999998, 1)},
		{limbs(999999999, 999999999), limbs(999999999, 999999999), limbs(999999998, 999999999, 1)},
		{limbs(1), limbs(999999999, 999999999, 999999999), limbs(0, 0, 0, 1)},
		{limbs(0, 0, 7), limbs(3, 4), limbs(3, 4, 7)},
		{limbs(999999999, 0, 7), limbs(1), limbs(0, 1, 7)},
	} {
		x, e := nat.Add(c.a, c.b)
		is(t, "Add", x, e, c.want)
		x, e = nat.Add(c.b, c.a)
		is(t, "Add", x, e, c.want)
	}
	almost := greatest()
	almost[0]--
	x, e := nat.Add(almost, limbs(1))
	is(t, "the greatest sum", x, e, greatest())
	x, e = nat.Add(greatest(), limbs(1))
	fails(t, "Add", x, e, api.ErrOver)
	x, e = nat.Add(greatest(), greatest())
	fails(t, "Add", x, e, api.ErrOver)
}

// P1.2
func TestSub(t *testing.T) {
	for _, c := range []struct{ a, b, want api.Nat }{
		{limbs(), limbs(), limbs()},
		{limbs(5, 6), limbs(), limbs(5, 6)},
		{limbs(5, 6), limbs(5, 6), limbs()},
		{limbs(0, 1), limbs(1), limbs(999999999)},
		{limbs(0, 0, 0, 1), limbs(1), limbs(999999999, 999999999, 999999999)},
		{limbs(1, 2, 3), limbs(2, 2, 2), limbs(999999999, 999999999)},
		{limbs(1, 2, 3), limbs(0, 2, 3), limbs(1)},
		{limbs(0, 5, 3), limbs(999999999, 999999999), limbs(1, 5, 2)},
		{limbs(0, 0, 5), limbs(0, 999999999), limbs(0, 1, 4)},
	} {
		x, e := nat.Sub(c.a, c.b)
		is(t, "Sub", x, e, c.want)
	}
	for _, c := range [][2]api.Nat{{limbs(), limbs(1)}, {limbs(1), limbs(2)}, {limbs(999999999), limbs(0, 1)}, {limbs(5, 6), limbs(6, 6)}, {limbs(9, 1), limbs(0, 2)}, {limbs(1), greatest()}} {
		x, e := nat.Sub(c[0], c[1])
		fails(t, "Sub", x, e, api.ErrRange)
	}
	x, e := nat.Sub(greatest(), greatest())
	is(t, "Sub", x, e, nil)
}

// P1.2
func TestMul(t *testing.T) {
	for _, c := range []struct{ a, b, want api.Nat }{
		{limbs(), limbs(), limbs()},
		{limbs(), limbs(5, 6), limbs()},
		{limbs(1), limbs(5, 6), limbs(5, 6)},
		{limbs(2), limbs(3), limbs(6)},
		{limbs(999999999), limbs(999999999), limbs(1, 999999998)},
		{limbs(0, 1), limbs(0, 1), limbs(0, 0, 1)},
		{limbs(1, 1), limbs(1, 1), limbs(1, 2, 1)},
		{limbs(500000000), limbs(2), limbs(0, 1)},
		{number(sampleA), number(sampleB), number("853973422267356706546355086954657449503488853576511496187960113017922861115718128481675886264428798316070522380183750950795508436751320496923049936427643977482990764895156050265")},
	} {
		x, e := nat.Mul(c.a, c.b)
		is(t, "Mul", x, e, c.want)
		x, e = nat.Mul(c.b, c.a)
		is(t, "Mul", x, e, c.want)
	}
}

// P1.2: the square of 10^(9n) - 1 is 10^(18n) - 2*10^(9n) + 1.
func TestSquaresOfNines(t *testing.T) {
	for _, size := range []int{1, 2, 3, 17, 18, 19, 35, 36, 37, 100, 511, 512} {
		want := append(limbs(1), repeat(size-1, 0)...)
		want = append(want, 999999998)
		want = append(want, repeat(size-1, 999999999)...)
		nines := repeat(size, 999999999)
		x, e := nat.Mul(nines, nines)
		is(t, "square", x, e, want)
		x, e = nat.Pow(nines, 2)
		is(t, "square", x, e, want)
	}
}

// P1.2
func TestLongProducts(t *testing.T) {
	x, e := nat.Mul(tens(4607), tens(4608))
	is(t, "Mul", x, e, tens(9215))
	x, e = nat.Mul(tens(4608), tens(4608))
	fails(t, "Mul", x, e, api.ErrOver)
	x, e = nat.Mul(greatest(), limbs(1))
	is(t, "Mul", x, e, greatest())
	x, e = nat.Mul(limbs(), greatest())
	is(t, "Mul", x, e, nil)
	x, e = nat.Mul(greatest(), limbs(2))
	fails(t, "Mul", x, e, api.ErrOver)
	x, e = nat.Mul(greatest(), greatest())
	fails(t, "Mul", x, e, api.ErrOver)
	x, e = nat.Mul(repeat(512, 999999999), repeat(513, 999999999))
	fails(t, "Mul", x, e, api.ErrOver)
	// 513 and 512 limbs, but the highest ones have a product of one limb.
	a, b := append(repeat(512, 999999999), 1), append(repeat(511, 999999999), 1)
	x, e = nat.Mul(a, b)
	if e != api.OK || len(x) != 1024 {
		t.Error(len(x), e)
	}
	for _, m := range moduli() {
		if rest(x, m) != rest(a, m)*rest(b, m)%m {
			t.Error("wrong product modulo", m)
		}
	}
}

// P1.2
func TestPow(t *testing.T) {
	for _, c := range []struct {
		a    api.Nat
		n    int
		want api.Nat
	}{
		{limbs(), 0, limbs(1)},
		{limbs(), 1, limbs()},
		{limbs(), 10000, limbs()},
		{limbs(1), 0, limbs(1)},
		{limbs(1), 10000, limbs(1)},
		{limbs(7, 8), 0, limbs(1)},
		{limbs(7, 8), 1, limbs(7, 8)},
		{limbs(10), 9, limbs(0, 1)},
		{limbs(2), 62, number("4611686018427387904")},
		{limbs(2), 200, number("1606938044258990275541962092341162602522202993782792835301376")},
		{limbs(3), 100, number("515377520732011331036461129765621272702107522001")},
		{limbs(7), 61, number("3556153025177363557255317383565515512407041673852007")},
		{limbs(10), 9215, tens(9215)},
		{tens(9215), 1, tens(9215)},
		{greatest(), 1, greatest()},
		{greatest(), 0, limbs(1)},
	} {
		x, e := nat.Pow(c.a, c.n)
		is(t, "Pow", x, e, c.want)
	}
	for _, n := range []int{-1, 10001, math.MinInt64, math.MaxInt64} {
		for _, a := range []api.Nat{limbs(), limbs(1), limbs(2)} {
			x, e := nat.Pow(a, n)
			fails(t, "Pow", x, e, api.ErrRange)
		}
	}
}

// P1.2: powers of up to 9,216 digits are returned, also if a greater one would come up by squaring too often.
func TestLongPowers(t *testing.T) {
	for _, c := range []struct{ a, n, digits int }{{8, 10000, 9031}, {9, 9657, 9216}, {2, 10000, 3011}, {100, 4607, 9215}} {
		a, _ := nat.Of(c.a)
		x, e := nat.Pow(a, c.n)
		if d, _ := nat.Digits(x); e != api.OK || d != c.digits {
			t.Error(c, d, e)
		}
		for _, m := range moduli() {
			want := uint64(1)
			for range c.n {
				want = want * uint64(c.a) % m
			}
			if rest(x, m) != want {
				t.Error(c, "wrong modulo", m)
			}
		}
	}
	for _, c := range []struct {
		a api.Nat
		n int
	}{{limbs(9), 9658}, {limbs(10), 9216}, {limbs(10), 10000}, {tens(4608), 2}, {tens(3072), 3}, {greatest(), 2}, {greatest(), 10000}} {
		x, e := nat.Pow(c.a, c.n)
		fails(t, "Pow", x, e, api.ErrOver)
	}
}

// P1.3
func TestDiv(t *testing.T) {
	for _, c := range []struct{ a, b, q, r api.Nat }{
		{limbs(), limbs(1), limbs(), limbs()},
		{limbs(), limbs(1, 2, 3), limbs(), limbs()},
		{limbs(7), limbs(2), limbs(3), limbs(1)},
		{limbs(7), limbs(7), limbs(1), limbs()},
		{limbs(7), limbs(8), limbs(), limbs(7)},
		{limbs(7, 8), limbs(1), limbs(7, 8), limbs()},
		{limbs(7, 8), limbs(0, 1), limbs(8), limbs(7)},
		{limbs(7, 8, 9), limbs(1, 2, 3, 4), limbs(), limbs(7, 8, 9)},
		{limbs(7, 8, 9), limbs(7, 8, 9), limbs(1), limbs()},
		{limbs(7, 8, 9), limbs(8, 8, 9), limbs(), limbs(7, 8, 9)},
		{limbs(0, 0, 1), limbs(7), limbs(857142857, 142857142), limbs(1)},
		{limbs(0, 0, 0, 1), limbs(0, 1), limbs(0, 0, 1), limbs()},
		{limbs(999999999, 999999999), limbs(1, 1), limbs(999999999), limbs()},
		{limbs(999999999, 999999999, 999999999), limbs(1, 1), limbs(0, 999999999), limbs(999999999)},
		// The first guess from the highest limbs is too great here.
		{limbs(0, 0, 500000000, 499999999), limbs(1, 0, 500000000), limbs(999999998), limbs(2, 999999999, 499999999)},
		{number(sampleA), number(sampleB), number("1155727349790921717910093"), number("4982955712757318815293218677488773861442393088549515495508194822156343091924")},
		{tens(9215), limbs(10), tens(9214), limbs()},
		{tens(9215), tens(9000), tens(215), limbs()},
		{greatest(), limbs(1), greatest(), limbs()},
		{greatest(), greatest(), limbs(1), limbs()},
		{greatest(), repeat(512, 999999999), append(append(limbs(1), repeat(511, 0)...), 1), limbs()},
	} {
		q, r, e := nat.Div(c.a, c.b)
		is(t, "quotient", q, e, c.q)
		is(t, "remainder", r, e, c.r)
	}
	for _, a := range []api.Nat{limbs(), limbs(1), limbs(1, 2, 3), greatest()} {
		q, r, e := nat.Div(a, nil)
		fails(t, "quotient", q, e, api.ErrZero)
		fails(t, "remainder", r, e, api.ErrZero)
	}
}

// P1.3
func TestGcd(t *testing.T) {
	for _, c := range []struct{ a, b, want api.Nat }{
		{limbs(), limbs(), limbs()},
		{limbs(), limbs(7), limbs(7)},
		{limbs(), limbs(7, 8, 9), limbs(7, 8, 9)},
		{limbs(), greatest(), greatest()},
		{limbs(1), limbs(7, 8, 9), limbs(1)},
		{limbs(12), limbs(18), limbs(6)},
		{limbs(17), limbs(18), limbs(1)},
		{limbs(5, 6, 7), limbs(5, 6, 7), limbs(5, 6, 7)},
		{limbs(0, 0, 1), limbs(0, 0, 0, 1), limbs(0, 0, 1)},
		{limbs(0, 0, 1), number("1606938044258990275541962092341162602522202993782792835301376"), number("262144")},
		{number("1519708182382116100125"), number("487989282282196940391186432"), limbs(59049)},
		{number("98765432109876543210987654326629629630262962963026296296297"), number("98765432109876543210987655209888888988888888898888888889"), number("98765432109876543210987654321")},
		{number("222232244629420445529739893461909967206666939096499764990979600"), number("137347080577163115432025771710279131845700275212767467264610201"), limbs(1)},
		{tens(9215), tens(9000), tens(9000)},
		{greatest(), tens(9215), limbs(1)},
		{greatest(), repeat(768, 999999999), repeat(256, 999999999)},
	} {
		g, e := nat.Gcd(c.a, c.b)
		is(t, "Gcd", g, e, c.want)
		g, e = nat.Gcd(c.b, c.a)
		is(t, "Gcd", g, e, c.want)
	}
}

// P1.3
func TestLcm(t *testing.T) {
	for _, c := range []struct{ a, b, want api.Nat }{
		{limbs(), limbs(), limbs()},
		{limbs(), limbs(7), limbs()},
		{limbs(), greatest(), limbs()},
		{limbs(1), limbs(7, 8, 9), limbs(7, 8, 9)},
		{limbs(4), limbs(6), limbs(12)},
		{limbs(5, 6, 7), limbs(5, 6, 7), limbs(5, 6, 7)},
		{limbs(999999999), limbs(0, 1), limbs(0, 999999999)},
		{number("98765432109876543210987654326629629630262962963026296296297"), number("98765432109876543210987655209888888988888888898888888889"), number("98765432109876543210987655215518518619151851861915185235963666672366666667236666666673")},
		{tens(9215), tens(9000), tens(9215)},
		{greatest(), greatest(), greatest()},
		{greatest(), repeat(512, 999999999), greatest()},
	} {
		l, e := nat.Lcm(c.a, c.b)
		is(t, "Lcm", l, e, c.want)
		l, e = nat.Lcm(c.b, c.a)
		is(t, "Lcm", l, e, c.want)
	}
	for _, c := range [][2]api.Nat{{greatest(), limbs(2)}, {limbs(11), tens(9215)}, {greatest(), tens(9215)}, {tens(4608), repeat(513, 999999999)}} {
		l, e := nat.Lcm(c[0], c[1])
		fails(t, "Lcm", l, e, api.ErrOver)
		l, e = nat.Lcm(c[1], c[0])
		fails(t, "Lcm", l, e, api.ErrOver)
	}
}
