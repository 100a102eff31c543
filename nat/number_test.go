package nat_test

import (
	"math"
	"slices"
	"testing"

	"parlour/api"
	"parlour/nat"
)

// P1.1
func TestCheck(t *testing.T) {
	bad := repeat(api.MaxLimbs+1, 7)
	bad[3] = api.Limb
	inside := greatest()
	inside[1] = api.Limb
	for _, c := range []struct {
		name string
		n    api.Nat
		want api.Errno
	}{
		{"nil", nil, api.OK},
		{"empty", api.Nat{}, api.OK},
		{"one", limbs(1), api.OK},
		{"greatest limb", limbs(999999999), api.OK},
		{"zeros below", limbs(0, 0, 1), api.OK},
		{"the greatest number", greatest(), api.OK},
		{"zero as a limb", limbs(0), api.ErrForm},
		{"zero at the end", limbs(1, 0), api.ErrForm},
		{"limb too great", limbs(api.Limb), api.ErrForm},
		{"lower limb too great", limbs(api.Limb, 1), api.ErrForm},
		{"greatest word", limbs(1, math.MaxUint32, 1), api.ErrForm},
		{"limb too great among many", inside, api.ErrForm},
		{"1,024 zeros", repeat(api.MaxLimbs, 0), api.ErrForm},
		{"1,025 limbs", repeat(api.MaxLimbs+1, 1), api.ErrLong},
		{"1,025 zeros", repeat(api.MaxLimbs+1, 0), api.ErrLong},
		{"1,025 limbs, one too great", bad, api.ErrLong},
	} {
		if e := nat.Check(c.n); e != c.want {
			t.Errorf("%s: %v, not %v", c.name, e, c.want)
		}
	}
}

// P1.1
func TestOf(t *testing.T) {
	for _, c := range []struct {
		a    int
		want api.Nat
	}{
		{0, nil},
		{1, limbs(1)},
		{999999999, limbs(999999999)},
		{1000000000, limbs(0, 1)},
		{12345678901, limbs(345678901, 12)},
		{999999999999999999, limbs(999999999, 999999999)},
		{1000000000000000000, limbs(0, 0, 1)},
		{math.MaxInt64, limbs(854775807, 223372036, 9)},
	} {
		n, e := nat.Of(c.a)
		is(t, "Of", n, e, c.want)
	}
	for _, a := range []int{-1, -1000000000, math.MinInt64} {
		n, e := nat.Of(a)
		fails(t, "Of", n, e, api.ErrRange)
	}
}

// P1.1
func TestInt(t *testing.T) {
	for _, a := range []int{0, 1, 999999999, 1000000000, 1000000007, 999999999999999999, 1000000000000000000, math.MaxInt64 - 1, math.MaxInt64} {
		n, _ := nat.Of(a)
		if got, e := nat.Int(n); got != a || e != api.OK {
			t.Errorf("%d: %d, %v", a, got, e)
		}
	}
	// 2^63, 2^63 + 10^9, 2^64 - 1, 2^64, 2^64 + 5, and more that would look small modulo 2^64.
	for _, s := range []string{"9223372036854775808", "9223372037854775808", "18446744073709551615", "18446744073709551616", "18446744073709551621", "184467440737095516165", "999999999999999999999999999", "1000000000000000000000000000", "340282366920938463463374607431768211461"} {
		if got, e := nat.Int(number(s)); got != 0 || e != api.ErrOver {
			t.Errorf("%s: %d, %v", s, got, e)
		}
	}
	if got, e := nat.Int(greatest()); got != 0 || e != api.ErrOver {
		t.Error(got, e)
	}
}

// P1.1
func TestCmp(t *testing.T) {
	ordered := []api.Nat{limbs(), limbs(1), limbs(2), limbs(999999999), limbs(0, 1), limbs(1, 1), limbs(999999999, 1), limbs(0, 2), limbs(1, 2), limbs(2, 2), limbs(0, 0, 1), limbs(5, 0, 1), limbs(0, 5, 1), limbs(9, 9, 9), tens(9215), greatest()}
	for i, a := range ordered {
		for k, b := range ordered {
			want := 0
			if i < k {
				want = -1
			} else if i > k {
				want = 1
			}
			if got, e := nat.Cmp(slices.Clone(a), b); got != want || e != api.OK {
				t.Errorf("%v, %v: %d, %v", short(a), short(b), got, e)
			}
		}
	}
}

// P1.1
func TestDigits(t *testing.T) {
	if d, e := nat.Digits(nil); d != 1 || e != api.OK {
		t.Error(d, e)
	}
	nines := ""
	for exponent := range 60 {
		if d, e := nat.Digits(tens(exponent)); d != exponent+1 || e != api.OK {
			t.Errorf("10^%d: %d, %v", exponent, d, e)
		}
		nines += "9"
		if d, e := nat.Digits(number(nines)); d != exponent+1 || e != api.OK {
			t.Errorf("%s: %d, %v", nines, d, e)
		}
	}
	if d, e := nat.Digits(greatest()); d != 9216 || e != api.OK {
		t.Error(d, e)
	}
	if d, e := nat.Digits(tens(9207)); d != 9208 || e != api.OK {
		t.Error(d, e)
	}
}
