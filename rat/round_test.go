package rat_test

import (
	"math"
	"strings"
	"testing"

	"parlour/api"
	"parlour/rat"
)

// P2.3
func TestFloorAndCeil(t *testing.T) {
	for _, c := range []struct{ a, floor, ceil string }{
		{"0", "0", "0"},
		{"5", "5", "5"},
		{"-5", "-5", "-5"},
		{"3/2", "1", "2"},
		{"-3/2", "-2", "-1"},
		{"1/2", "0", "1"},
		{"-1/2", "-1", "0"},
		{"999999999/1000000000", "0", "1"},
		{"-1/1000000000000", "-1", "0"},
		{"7/3", "2", "3"},
		{"8/3", "2", "3"},
		{"-7/3", "-3", "-2"},
		{"-8/3", "-3", "-2"},
		{"1999999999999999999/2", "999999999999999999", "1000000000000000000"},
		{"-1999999999999999999/2", "-1000000000000000000", "-999999999999999999"},
		{nines(), nines(), nines()},
		{"-" + nines(), "-" + nines(), "-" + nines()},
		{nines() + "/2", lowHalf(), highHalf()},
		{"-" + nines() + "/2", "-" + highHalf(), "-" + lowHalf()},
		{"1/" + nines(), "0", "1"},
		{"-1/" + nines(), "-1", "0"},
		{nines() + "/" + tens(9215), "9", "10"},
		{"-" + nines() + "/" + tens(9215), "-10", "-9"},
	} {
		x, e := rat.Floor(number(c.a))
		is(t, "Floor", x, e, c.floor)
		x, e = rat.Ceil(number(c.a))
		is(t, "Ceil", x, e, c.ceil)
	}
}

// P2.3
func TestScale(t *testing.T) {
	for _, c := range []struct {
		a       string
		n, want int
	}{
		{"0", 5, 0},
		{"0", math.MinInt64, 0},
		{"2/3", 0, 0},
		{"-2/3", 0, 0},
		{nines(), 0, 0},
		{"-" + nines() + "/2", 0, 0},
		{"2/3", 100, 66},
		{"-1/3", 100, -34},
		{"1/3", -100, -34},
		{"-1/3", -100, 33},
		{"1/3", 99, 33},
		{"-1/3", 99, -33},
		{"1/3", -99, -33},
		{"5/3", 1, 1},
		{"-5/3", 1, -2},
		{"5/3", -1, -2},
		{"-5/3", -1, 1},
		{"7", -6, -42},
		{"5", -1 << 60, -5 << 60},
		{"1", math.MaxInt64, math.MaxInt64},
		{"1", math.MinInt64, math.MinInt64},
		{"-1", math.MaxInt64, -math.MaxInt64},
		{"-2", 1 << 62, math.MinInt64},
		{"2", -1 << 62, math.MinInt64},
		{"1/2", math.MinInt64, -1 << 62},
		{"-1/2", math.MinInt64, 1 << 62},
		{"1/2", math.MaxInt64, 1<<62 - 1},
		{"-1/2", math.MaxInt64, -1 << 62},
		{"9223372036854775807", 1, math.MaxInt64},
		{"9223372036854775808", -1, math.MinInt64},
		{"-9223372036854775808", 1, math.MinInt64},
		{"18446744073709551615/2", 1, math.MaxInt64},
		{"-18446744073709551615/2", 1, math.MinInt64},
		{"9223372036854775807/9223372036854775808", math.MinInt64, -math.MaxInt64},
		{"-9223372036854775807/9223372036854775808", math.MinInt64, math.MaxInt64},
		{nines() + "/" + tens(9215), 1, 9},
		{"-" + nines() + "/" + tens(9215), 1, -10},
		{nines() + "/" + tens(9215), 1 << 59, 10<<59 - 1},
		{nines() + "/" + tens(9215), -1 << 59, -10 << 59},
	} {
		n, e := rat.Scale(number(c.a), c.n)
		if n != c.want || e != api.OK {
			t.Errorf("%.60s * %d: %d, %v, not %d", c.a, c.n, n, e, c.want)
		}
	}
}

// P2.3: the product of the numerator and n may be too long, if only the result is an int.
func TestScaleOfLongNumbers(t *testing.T) {
	below, above := less()+"/"+nines(), nines()+"/"+less()
	sevenths := "1" + nines()[1:] + "/6" + nines()[1:]
	for _, c := range []struct {
		a       string
		n, want int
	}{
		{below, 1, 0},
		{below, 2, 1},
		{below, 1000, 999},
		{below, math.MaxInt64, math.MaxInt64 - 1},
		{below, math.MinInt64, math.MinInt64},
		{below, -1000, -1000},
		{"-" + below, 1, -1},
		{"-" + below, 1000, -1000},
		{"-" + below, -1000, 999},
		{"-" + below, math.MaxInt64, -math.MaxInt64},
		{"-" + below, math.MinInt64, math.MaxInt64},
		{above, 1000, 1000},
		{above, -1000, -1001},
		{above, math.MaxInt64, math.MaxInt64},
		{"-" + above, 1000, -1001},
		{"-" + above, math.MaxInt64, math.MinInt64},
		{sevenths, 7000, 1999},
		{sevenths, 7 << 58, 2<<58 - 1},
		{sevenths, -7 << 58, -2 << 58},
		{sevenths, 10000, 2857},
		{sevenths, -10000, -2858},
	} {
		n, e := rat.Scale(number(c.a), c.n)
		if n != c.want || e != api.OK {
			t.Errorf("%.60s * %d: %d, %v, not %d", c.a, c.n, n, e, c.want)
		}
	}
}

// P2.3
func TestScaleOutOfRange(t *testing.T) {
	for _, c := range []struct {
		a string
		n int
	}{
		{"2", 1 << 62},
		{"-1", math.MinInt64},
		{"9223372036854775808", 1},
		{"-9223372036854775808", -1},
		{"-9223372036854775809", 1},
		{"18446744073709551617/2", 1},
		{"-18446744073709551617/2", 1},
		{"9223372036854775809/9223372036854775808", math.MinInt64},
		{nines(), 1},
		{nines(), -1},
		{nines() + "/2", 1},
		{nines() + "/2", 2},
		{nines() + "/2", math.MinInt64},
		{"-" + nines(), math.MaxInt64},
		{"-" + nines() + "/" + less(), math.MinInt64},
		{nines() + "/" + less(), math.MinInt64},
		{nines() + "/" + tens(9215), 1 << 60},
		// Nine times the integer part has 9,216 digits, and nine times the number one more.
		{strings.Repeat("2", 9215) + "3/2", 9},
		{"-" + strings.Repeat("2", 9215) + "3/2", -9},
	} {
		n, e := rat.Scale(number(c.a), c.n)
		if n != 0 || e != api.ErrOver {
			t.Errorf("%.60s * %d: %d, %v", c.a, c.n, n, e)
		}
	}
}

// P2.3: numbers with small parts are those of ints.
func TestRoundingOfInts(t *testing.T) {
	for a := -30; a <= 30; a++ {
		for b := 1; b <= 9; b++ {
			x := must(t)(rat.Of(a, b))
			low := int(math.Floor(float64(a) / float64(b)))
			high := int(math.Ceil(float64(a) / float64(b)))
			if f := must(t)(rat.Floor(x)); !equal(f, must(t)(rat.Of(low, 1))) {
				t.Fatal(a, b, f)
			}
			if c := must(t)(rat.Ceil(x)); !equal(c, must(t)(rat.Of(high, 1))) {
				t.Fatal(a, b, c)
			}
			for n := -20; n <= 20; n++ {
				k, e := rat.Scale(x, n)
				if e != api.OK || k*b > a*n || (k+1)*b <= a*n {
					t.Fatal(a, b, n, k, e)
				}
			}
		}
	}
}

// P2.3: Floor and Ceil are integers next to the number, and Scale is the floor of the product.
func TestRoundingOfLongNumbers(t *testing.T) {
	do := must(t)
	s := source(3)
	one, limit := number("1"), number("9223372036854775808")
	for range 3000 {
		a, n := s.number(5), s.below(1000)-500
		low, high := do(rat.Floor(a)), do(rat.Ceil(a))
		if !equal(api.Rat{Den: low.Den}, number("0")) || !equal(api.Rat{Den: high.Den}, number("0")) {
			t.Fatal(a, low, high, "are no integers")
		}
		below, above := do(rat.Sub(a, low)), do(rat.Sub(high, a))
		if below.Neg || above.Neg || compared(t, below, one) >= 0 || compared(t, above, one) >= 0 {
			t.Fatal(a, low, high, "are not next to it")
		}
		want := do(rat.Floor(do(rat.Mul(a, do(rat.Of(n, 1))))))
		fits := compared(t, want, limit) < 0 && !do(rat.Add(want, limit)).Neg
		k, e := rat.Scale(a, n)
		if !fits && (k != 0 || e != api.ErrOver) || fits && (e != api.OK || !equal(do(rat.Of(k, 1)), want)) {
			t.Fatal(a, n, k, e, want)
		}
	}
}
