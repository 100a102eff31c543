package rat_test

import (
	"math"
	"testing"

	"parlour/api"
	"parlour/rat"
)

// P2.1
func TestCheck(t *testing.T) {
	long, form := repeat(1025, 1), api.Nat{1, 0}
	for i, c := range []struct {
		a    api.Rat
		want api.Errno
	}{
		{number("0"), api.OK},
		{number("1"), api.OK},
		{number("-1"), api.OK},
		{number("5/3"), api.OK},
		{number("-3/5"), api.OK},
		{api.Rat{Num: api.Nat{}, Den: api.Nat{1}}, api.OK},
		{api.Rat{Num: greatest(), Den: api.Nat{1}}, api.OK},
		{api.Rat{Num: api.Nat{1}, Den: greatest()}, api.OK},
		{api.Rat{Neg: true, Num: greatest(), Den: number(tens(9215)).Num}, api.OK},
		{number("2/4"), api.ErrForm},
		{number("4/2"), api.ErrForm},
		{number("-0"), api.ErrForm},
		{number("0/2"), api.ErrForm},
		{number("-0/2"), api.ErrForm},
		{number("7/7"), api.ErrForm},
		{number("15241578753238836750190521/123456789"), api.ErrForm},
		{api.Rat{Num: greatest(), Den: repeat(512, 999999999)}, api.ErrForm},
		{api.Rat{}, api.ErrZero},
		{api.Rat{Neg: true}, api.ErrZero},
		{api.Rat{Num: api.Nat{}, Den: api.Nat{}}, api.ErrZero},
		{api.Rat{Num: api.Nat{7}}, api.ErrZero},
		{api.Rat{Num: form}, api.ErrForm},
		{api.Rat{Num: long}, api.ErrLong},
		{api.Rat{Num: api.Nat{api.Limb}, Den: api.Nat{1}}, api.ErrForm},
		{api.Rat{Num: api.Nat{1}, Den: form}, api.ErrForm},
		{api.Rat{Num: api.Nat{1}, Den: api.Nat{0}}, api.ErrForm},
		{api.Rat{Num: api.Nat{1}, Den: long}, api.ErrLong},
		{api.Rat{Num: form, Den: long}, api.ErrForm},
		{api.Rat{Num: long, Den: form}, api.ErrLong},
		{api.Rat{Neg: true, Den: long}, api.ErrLong},
		{api.Rat{Num: api.Nat{2}, Den: repeat(1025, 2)}, api.ErrLong},
	} {
		if e := rat.Check(c.a); e != c.want {
			t.Error(i, short(c.a), e, "not", c.want)
		}
	}
}

// P2.1
func TestOf(t *testing.T) {
	for _, c := range []struct {
		a, b int
		want string
	}{
		{6, -4, "-3/2"},
		{-6, 4, "-3/2"},
		{-6, -4, "3/2"},
		{6, 4, "3/2"},
		{0, 5, "0"},
		{0, -5, "0"},
		{5, 5, "1"},
		{5, -5, "-1"},
		{7, 1, "7"},
		{1, 7, "1/7"},
		{12345678901, 10, "12345678901/10"},
		{math.MaxInt64, 1, "9223372036854775807"},
		{math.MinInt64, 1, "-9223372036854775808"},
		{math.MinInt64, -1, "9223372036854775808"},
		{math.MinInt64, math.MinInt64, "1"},
		{math.MinInt64, math.MaxInt64, "-9223372036854775808/9223372036854775807"},
		{1, math.MinInt64, "-1/9223372036854775808"},
		{2, math.MinInt64, "-1/4611686018427387904"},
		{0, math.MinInt64, "0"},
		{-1, math.MaxInt64, "-1/9223372036854775807"},
	} {
		x, e := rat.Of(c.a, c.b)
		is(t, "Of", x, e, c.want)
	}
	for _, a := range []int{0, 1, -1, math.MinInt64, math.MaxInt64} {
		x, e := rat.Of(a, 0)
		fails(t, "Of", x, e, api.ErrZero)
	}
}

// P2.1
func TestMake(t *testing.T) {
	for _, c := range []struct {
		neg      bool
		num, den string
		want     string
	}{
		{false, "6", "4", "3/2"},
		{true, "6", "4", "-3/2"},
		{false, "0", "7", "0"},
		{true, "0", "7", "0"},
		{true, "0", nines(), "0"},
		{true, "7", "7", "-1"},
		{false, nines(), nines(), "1"},
		{true, nines(), "1", "-" + nines()},
		{false, "1", nines(), "1/" + nines()},
		{false, tens(9215), tens(9000), tens(215)},
		{true, tens(9000), tens(9215), "-1/" + tens(215)},
	} {
		x, e := rat.Make(c.neg, natural(c.num), natural(c.den))
		is(t, "Make", x, e, c.want)
	}
	long, form, seven := repeat(1025, 1), api.Nat{1, 0}, api.Nat{7}
	for i, c := range []struct {
		num, den api.Nat
		want     api.Errno
	}{
		{nil, nil, api.ErrZero},
		{seven, nil, api.ErrZero},
		{form, nil, api.ErrForm},
		{long, nil, api.ErrLong},
		{form, seven, api.ErrForm},
		{long, seven, api.ErrLong},
		{seven, form, api.ErrForm},
		{nil, long, api.ErrLong},
		{form, long, api.ErrForm},
		{long, form, api.ErrLong},
		{seven, api.Nat{0}, api.ErrForm},
		{seven, api.Nat{api.Limb}, api.ErrForm},
	} {
		for _, neg := range []bool{false, true} {
			x, e := rat.Make(neg, c.num, c.den)
			if fails(t, "Make", x, e, c.want); e != c.want {
				t.Error(i)
			}
		}
	}
}
