package nat_test

import (
	"slices"
	"testing"

	"parlour/api"
	"parlour/nat"
)

// P1.1 to P1.4, R1, R3: the errors of Check come first, from left to right, and with one everything else is zero.
func TestErrorsOfNumbers(t *testing.T) {
	for _, c := range []struct {
		n    api.Nat
		want api.Errno
	}{{limbs(1, 0), api.ErrForm}, {limbs(0), api.ErrForm}, {limbs(5, api.Limb), api.ErrForm}, {repeat(1025, 1), api.ErrLong}, {repeat(1025, api.Limb), api.ErrLong}} {
		if i, e := nat.Int(c.n); i != 0 || e != c.want {
			t.Error("Int", i, e)
		}
		if d, e := nat.Digits(c.n); d != 0 || e != c.want {
			t.Error("Digits", d, e)
		}
		if s, e := nat.Text(c.n); s != "" || e != c.want {
			t.Error("Text", s, e)
		}
		for _, n := range []int{-1, 0, 1, 2, 10001} {
			x, e := nat.Pow(c.n, n)
			fails(t, "Pow", x, e, c.want)
		}
	}
}

// P1.1 to P1.3, R1, R3
func TestErrorsOfPairs(t *testing.T) {
	form, long := limbs(1, 0), repeat(1025, 1)
	for _, c := range []struct {
		a, b api.Nat
		want api.Errno
	}{
		{form, limbs(1), api.ErrForm},
		{long, limbs(1), api.ErrLong},
		{limbs(1), form, api.ErrForm},
		{limbs(1), long, api.ErrLong},
		{form, long, api.ErrForm},
		{long, form, api.ErrLong},
		{form, nil, api.ErrForm},
		{long, nil, api.ErrLong},
		{nil, form, api.ErrForm},
		{nil, long, api.ErrLong},
		{form, form, api.ErrForm},
		{greatest(), form, api.ErrForm},
		{limbs(0), limbs(0), api.ErrForm},
		{form, limbs(1, 1, 1), api.ErrForm},
	} {
		if o, e := nat.Cmp(c.a, c.b); o != 0 || e != c.want {
			t.Error("Cmp", o, e)
		}
		for name, f := range binaries() {
			x, e := f(c.a, c.b)
			fails(t, name, x, e, c.want)
		}
	}
}

// within returns a copy of a number with spare room behind it, in which nobody may write, and the whole of it.
func within(n api.Nat) (part, whole api.Nat) {
	whole = append(slices.Clone(n), repeat(8, 77)...)
	return whole[:len(n)], whole
}

// scribble overwrites a number and all the room behind it.
func scribble(n api.Nat) {
	n = n[:cap(n)]
	for i := range n {
		n[i] = 123456
	}
}

// R4: arguments are neither changed nor kept, results share no memory with them.
func TestMemoryOfPairs(t *testing.T) {
	numbers := []api.Nat{limbs(), limbs(1), limbs(2), limbs(0, 1), limbs(5, 6), limbs(5, 6, 7), limbs(1, 2, 3, 4, 5), number(sampleA), number(sampleB)}
	for name, f := range binaries() {
		for _, x := range numbers {
			for _, y := range numbers {
				a, wholeA := within(x)
				b, wholeB := within(y)
				first, e := f(a, b)
				want := slices.Clone(first)
				scribble(first)
				if !slices.Equal(a, x) || !slices.Equal(b, y) || !slices.Equal(wholeA[len(a):], repeat(8, 77)) || !slices.Equal(wholeB[len(b):], repeat(8, 77)) {
					t.Fatal(name, x, y, "changed:", wholeA, wholeB)
				}
				again, e2 := f(a, b)
				if !slices.Equal(again, want) || e2 != e {
					t.Fatal(name, x, y, again, want, e2, e)
				}
				scribble(wholeA)
				scribble(wholeB)
				if !slices.Equal(again, want) {
					t.Fatal(name, x, y, "shares memory")
				}
			}
		}
	}
}

// R4
func TestMemoryOfNumbers(t *testing.T) {
	for _, x := range []api.Nat{limbs(), limbs(1), limbs(5, 6, 7), number(sampleA)} {
		for n := range 4 {
			a, whole := within(x)
			p, e := nat.Pow(a, n)
			want := slices.Clone(p)
			scribble(p)
			if e != api.OK || !slices.Equal(a, x) || !slices.Equal(whole[len(a):], repeat(8, 77)) {
				t.Fatal(x, n, "changed:", whole, e)
			}
			p, _ = nat.Pow(a, n)
			scribble(whole)
			if !slices.Equal(p, want) {
				t.Fatal(x, n, "shares memory")
			}
		}
		a, whole := within(x)
		nat.Check(a)
		nat.Int(a)
		nat.Digits(a)
		nat.Text(a)
		nat.Cmp(a, a)
		if !slices.Equal(whole, append(slices.Clone(x), repeat(8, 77)...)) {
			t.Fatal(x, "changed:", whole)
		}
	}
	for _, a := range []int{1, 1000000000, 12345678901} {
		x, _ := nat.Of(a)
		want := slices.Clone(x)
		scribble(x)
		if x, _ = nat.Of(a); !slices.Equal(x, want) {
			t.Error(a, "is kept:", x)
		}
	}
}

// R4: the quotient and the remainder share no memory, even if one is appended to.
func TestMemoryOfDiv(t *testing.T) {
	numbers := []api.Nat{limbs(3), limbs(5, 6), limbs(5, 6, 7), limbs(1, 2, 3, 4, 5), number(sampleA), number(sampleB)}
	for _, a := range numbers {
		for _, b := range numbers {
			q, r, _ := nat.Div(a, b)
			wantQ, wantR := slices.Clone(q), slices.Clone(r)
			scribble(q)
			if !slices.Equal(r, wantR) {
				t.Fatal(a, b, r, wantR)
			}
			q, r, _ = nat.Div(a, b)
			scribble(r)
			if !slices.Equal(q, wantQ) {
				t.Fatal(a, b, q, wantQ)
			}
		}
	}
}
