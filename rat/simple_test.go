package rat_test

import (
	"testing"

	"parlour/api"
	"parlour/nat"
	"parlour/rat"
)

// P2.4
func TestSimple(t *testing.T) {
	for _, c := range []struct{ lo, hi, want string }{
		{"1/3", "1/2", "1/2"},
		{"3/10", "2/5", "1/3"},
		{"-1/2", "1/7", "0"},
		{"0", "1/7", "0"},
		{"-1/7", "0", "0"},
		{"0", "0", "0"},
		{"0", nines(), "0"},
		{"-" + nines(), nines(), "0"},
		{"-7/5", "-4/3", "-4/3"},
		{"-2/5", "-3/10", "-1/3"},
		{"5/2", "9/2", "3"},
		{"-9/2", "-5/2", "-3"},
		{"3", "9/2", "3"},
		{"5/2", "3", "3"},
		{"-9/2", "-3", "-3"},
		{"1", "1", "1"},
		{"22/7", "22/7", "22/7"},
		{"-22/7", "-22/7", "-22/7"},
		{"157/50", "63/20", "22/7"},
		{"392699/125000", "3141593/1000000", "355/113"},
		{"-3141593/1000000", "-392699/125000", "-355/113"},
		{"15707963/5000000", "31415927/10000000", "86953/27678"},
		{"1/" + nines(), "1/" + tens(9215), "1/" + tens(9215)},
		{"1/" + nines(), "1/2", "1/2"},
		{nines(), nines(), nines()},
		{nines() + "/2", nines(), highHalf()},
		{"-" + nines(), "-" + nines() + "/2", "-" + highHalf()},
		{less() + "/" + nines(), less() + "/" + nines(), less() + "/" + nines()},
		{less() + "/" + nines(), "1", "1"},
		{nines() + "/" + tens(9215), nines() + "/" + tens(9215), nines() + "/" + tens(9215)},
		{"-" + nines() + "/" + tens(9215), "-9", "-9"},
	} {
		x, e := rat.Simple(number(c.lo), number(c.hi))
		is(t, "Simple", x, e, c.want)
	}
	for _, c := range [][2]string{{"1/2", "1/3"}, {"1", "0"}, {"0", "-1"}, {"1/7", "-1/2"}, {"-1/3", "-1/2"}, {nines(), "1"}, {"1/" + tens(9215), "1/" + nines()}, {"1", less() + "/" + nines()}} {
		x, e := rat.Simple(number(c[0]), number(c[1]))
		fails(t, "Simple", x, e, api.ErrOrder)
	}
}

// P2.4: neighbours whose way down is longest, since all quotients on it are 1.
func TestSimpleOfFibonacci(t *testing.T) {
	do := must(t)
	before, last := api.Nat{1}, api.Nat{1}
	for range 3000 {
		next, e := nat.Add(before, last)
		if e != api.OK {
			t.Fatal(e)
		}
		before, last = last, next
	}
	next, _ := nat.Add(before, last)
	x, y := do(rat.Make(false, last, before)), do(rat.Make(false, next, last))
	if compared(t, x, y) > 0 {
		x, y = y, x
	}
	if s := do(rat.Simple(x, x)); !equal(s, x) {
		t.Error(short(s))
	}
	if s := do(rat.Simple(x, y)); !equal(s, do(rat.Make(false, last, before))) {
		t.Error(short(s))
	}
}

// simplestOf tries all numbers, the simplest ones first.
func simplestOf(t *testing.T, lo, hi api.Rat) api.Rat {
	for den := 1; ; den++ {
		for num := 0; num <= 20*den; num++ {
			for _, side := range []int{1, -1} {
				x := must(t)(rat.Of(side*num, den))
				if compared(t, lo, x) <= 0 && compared(t, x, hi) <= 0 {
					return x
				}
			}
		}
	}
}

// P2.4, P2.8
func TestSimpleOfAllIntervals(t *testing.T) {
	var ends []api.Rat
	for den := 1; den <= 6; den++ {
		for num := -2 * den; num <= 2*den; num++ {
			ends = append(ends, must(t)(rat.Of(num, den)))
		}
	}
	for _, lo := range ends {
		for _, hi := range ends {
			x, e := rat.Simple(lo, hi)
			if compared(t, lo, hi) > 0 {
				fails(t, "Simple", x, e, api.ErrOrder)
				continue
			}
			if want := simplestOf(t, lo, hi); e != api.OK || !equal(x, want) {
				t.Fatal(lo, hi, x, e, want)
			}
		}
	}
}

// simpler reports whether a is at least as simple as b.
func simpler(t *testing.T, a, b api.Rat) bool {
	dens, e := nat.Cmp(a.Den, b.Den)
	nums, f := nat.Cmp(a.Num, b.Num)
	if e != api.OK || f != api.OK {
		t.Fatal(a, b, e, f)
	}
	return dens < 0 || dens == 0 && nums <= 0
}

// P2.8
func TestSimplestNumbers(t *testing.T) {
	triples(t, func(t *testing.T, a, b, c api.Rat) {
		lo, hi := a, b
		if compared(t, lo, hi) > 0 {
			lo, hi = hi, lo
		}
		x := must(t)(rat.Simple(lo, hi))
		if compared(t, lo, x) > 0 || compared(t, x, hi) > 0 {
			t.Fatal(lo, hi, x, "is not in the interval")
		}
		if !simpler(t, x, lo) || !simpler(t, x, hi) {
			t.Fatal(lo, hi, x, "is not as simple as the ends")
		}
		wideLo, wideHi := lo, hi
		if compared(t, c, lo) < 0 {
			wideLo = c
		}
		if compared(t, c, hi) > 0 {
			wideHi = c
		}
		if y := must(t)(rat.Simple(wideLo, wideHi)); !simpler(t, y, x) {
			t.Fatal(lo, hi, c, x, y, "is not as simple as that of the smaller interval")
		}
	})
}

// P2.8: a multiple of lo and one of hi by a lesser Den leave no room for an integer.
func TestNoLesserDen(t *testing.T) {
	do := must(t)
	s := source(5)
	for range 300 {
		lo := do(rat.Make(s.below(2) == 0, s.natural(1), api.Nat{uint32(1 + s.below(api.Limb-1))}))
		width := 1 + s.below(500)
		hi := do(rat.Add(lo, do(rat.Of(1, width))))
		x := do(rat.Simple(lo, hi))
		den, e := nat.Int(x.Den)
		if e != api.OK || den > width {
			t.Fatal(lo, hi, x, e)
		}
		for d := 1; d < den; d++ {
			factor := do(rat.Of(d, 1))
			first, last := do(rat.Ceil(do(rat.Mul(lo, factor)))), do(rat.Floor(do(rat.Mul(hi, factor))))
			if compared(t, first, last) <= 0 {
				t.Fatal(lo, hi, x, "but", first, d)
			}
		}
	}
}
