package rat_test

import (
	"math"
	"slices"
	"testing"

	"parlour/api"
	"parlour/rat"
)

// invalid returns numbers that are not valid, with the errors of Check.
func invalid() []struct {
	a    api.Rat
	want api.Errno
} {
	return []struct {
		a    api.Rat
		want api.Errno
	}{
		{number("2/4"), api.ErrForm},
		{number("-0"), api.ErrForm},
		{number("0/3"), api.ErrForm},
		{api.Rat{}, api.ErrZero},
		{api.Rat{Neg: true, Num: api.Nat{5}}, api.ErrZero},
		{api.Rat{Num: api.Nat{1, 0}, Den: api.Nat{1}}, api.ErrForm},
		{api.Rat{Num: api.Nat{1}, Den: api.Nat{api.Limb}}, api.ErrForm},
		{api.Rat{Num: repeat(1025, 1), Den: api.Nat{1}}, api.ErrLong},
		{api.Rat{Num: api.Nat{1}, Den: repeat(1025, 1)}, api.ErrLong},
	}
}

// P2.2 to P2.5, R1, R3: the errors of Check come first, and with one everything else is zero.
func TestErrorsOfNumbers(t *testing.T) {
	for _, c := range invalid() {
		for name, f := range unaries() {
			x, e := f(c.a)
			fails(t, name, x, e, c.want)
		}
		for _, n := range []int{0, 1, -1, 100, math.MinInt64, math.MaxInt64} {
			if k, e := rat.Scale(c.a, n); k != 0 || e != c.want {
				t.Error("Scale", short(c.a), k, e)
			}
		}
		if s, e := rat.Text(c.a); s != "" || e != c.want {
			t.Error("Text", short(c.a), s, e)
		}
	}
}

// P2.2, P2.4, R1, R3: from left to right, and before ErrZero, ErrOver and ErrOrder.
func TestErrorsOfPairs(t *testing.T) {
	check := func(a, b api.Rat, want api.Errno) {
		t.Helper()
		for name, f := range binaries() {
			x, e := f(a, b)
			fails(t, name, x, e, want)
		}
		if o, e := rat.Cmp(a, b); o != 0 || e != want {
			t.Error("Cmp", short(a), short(b), o, e)
		}
	}
	for _, c := range invalid() {
		for _, valid := range []string{"0", "1", "-1/2", nines(), "-" + nines()} {
			check(c.a, number(valid), c.want)
			check(number(valid), c.a, c.want)
		}
		for _, d := range invalid() {
			check(c.a, d.a, c.want)
		}
	}
}

// within returns a copy of a number with spare room behind its parts, in which nobody may write.
func within(a api.Rat) api.Rat {
	room := func(n api.Nat) api.Nat { return append(slices.Clone(n), repeat(8, 77)...)[:len(n)] }
	return api.Rat{Neg: a.Neg, Num: room(a.Num), Den: room(a.Den)}
}

// untouched reports whether a copy of within is still as it was.
func untouched(copied, a api.Rat) bool {
	whole := func(n api.Nat) api.Nat { return n[len(n) : len(n)+8] }
	return equal(copied, a) && slices.Equal(whole(copied.Num), repeat(8, 77)) && slices.Equal(whole(copied.Den), repeat(8, 77))
}

// scribble overwrites the parts of a number and all the room behind them.
func scribble(parts ...api.Nat) {
	for _, n := range parts {
		n = n[:cap(n)]
		for i := range n {
			n[i] = 123456
		}
	}
}

// shares reports whether a result shares memory with arguments, or one of its parts with the other. It overwrites all of them.
func shares(x api.Rat, arguments ...api.Rat) bool {
	before := api.Rat{Neg: x.Neg, Num: slices.Clone(x.Num), Den: slices.Clone(x.Den)}
	for _, a := range arguments {
		scribble(a.Num, a.Den)
	}
	if !equal(x, before) {
		return true
	}
	scribble(x.Num)
	return !slices.Equal(x.Den, before.Den)
}

// samples returns numbers of several sizes, with and without common factors.
func samples() []api.Rat {
	var out []api.Rat
	for _, s := range []string{"0", "1", "-1", "2", "1/2", "-1/2", "3/2", "-5/3", "1000000000", "-1/1000000000", "7000000000000000000000/3", sampleA, sampleB, sampleC, sampleD} {
		out = append(out, number(s))
	}
	return out
}

// R4: arguments are neither changed nor kept, results share no memory with them.
func TestMemoryOfPairs(t *testing.T) {
	for name, f := range binaries() {
		for _, x := range samples() {
			for _, y := range samples() {
				a, b := within(x), within(y)
				first, e := f(a, b)
				again, e2 := f(a, b)
				rat.Cmp(a, b)
				if e != e2 || !equal(first, again) || !untouched(a, x) || !untouched(b, y) {
					t.Fatal(name, x, y, first, again, e, e2)
				}
				if shares(again, a, b, first) {
					t.Fatal(name, x, y, "shares memory")
				}
			}
		}
	}
}

// R4
func TestMemoryOfNumbers(t *testing.T) {
	for _, x := range samples() {
		for name, f := range unaries() {
			a := within(x)
			first, e := f(a)
			again, e2 := f(a)
			if e != e2 || !equal(first, again) || !untouched(a, x) || shares(again, a, first) {
				t.Fatal(name, x, first, again, e, e2)
			}
		}
		a := within(x)
		rat.Check(a)
		rat.Scale(a, -1000)
		rat.Text(a)
		if !untouched(a, x) {
			t.Fatal(x, "changed:", a)
		}
		for _, neg := range []bool{false, true} {
			first, e := rat.Make(neg, a.Num, a.Den)
			again, e2 := rat.Make(neg, a.Num, a.Den)
			if e != e2 || !equal(first, again) || !untouched(a, x) {
				t.Fatal("Make", x, first, again, e, e2)
			}
			if shares(again, within(a), first) {
				t.Fatal("Make", x, "shares memory")
			}
		}
		first, _ := rat.Make(false, a.Num, a.Den)
		if shares(first, a) {
			t.Fatal("Make", x, "shares memory")
		}
	}
	for range 2 {
		first, e := rat.Of(6, -4)
		if is(t, "Of", first, e, "-3/2"); shares(first) {
			t.Fatal("Of shares memory")
		}
		first, f := rat.Parse("-6/4")
		if is(t, "Parse", first, f.Err, "-3/2"); shares(first) {
			t.Fatal("Parse shares memory")
		}
		first, f = rat.Parse("-0")
		if is(t, "Parse", first, f.Err, "0"); shares(first) {
			t.Fatal("Parse shares memory")
		}
	}
}

// R4: a number without limbs in its Num may be nil or empty.
func TestEmptyLists(t *testing.T) {
	zero := api.Rat{Num: api.Nat{}, Den: api.Nat{1}}
	for name, f := range binaries() {
		for _, y := range samples() {
			for _, pair := range [][4]api.Rat{{zero, y, number("0"), y}, {y, zero, y, number("0")}} {
				x, e := f(pair[0], pair[1])
				want, e2 := f(pair[2], pair[3])
				if e != e2 || !equal(x, want) {
					t.Fatal(name, y, x, e, want, e2)
				}
			}
		}
	}
}
