package rat_test

import (
	"strings"
	"testing"

	"parlour/api"
	"parlour/nat"
	"parlour/rat"
)

// P2.5
func TestText(t *testing.T) {
	for _, want := range []string{"0", "1", "-1", "1/2", "-3/2", "12345678901234567890", "-1/1000000000", "1000000000/999999999", nines(), "-" + nines() + "/" + tens(9215), "1/" + nines()} {
		if s, e := rat.Text(number(want)); s != want || e != api.OK {
			t.Errorf("%.60q, %v, not %.60q", s, e, want)
		}
	}
	if s, e := rat.Text(api.Rat{Num: api.Nat{}, Den: api.Nat{1}}); s != "0" || e != api.OK {
		t.Error(s, e)
	}
}

// P2.5
func TestParse(t *testing.T) {
	for _, c := range []struct{ s, want string }{
		{"0", "0"},
		{"-0", "0"},
		{"-0/3", "0"},
		{"0/3", "0"},
		{"0/" + nines(), "0"},
		{"12", "12"},
		{"-12", "-12"},
		{"12/1", "12"},
		{"-6/4", "-3/2"},
		{"10/5", "2"},
		{"5/5", "1"},
		{"1000000000000/3", "1000000000000/3"},
		{nines(), nines()},
		{"-" + nines(), "-" + nines()},
		{nines() + "/" + nines(), "1"},
		{"-" + nines() + "/" + tens(9215), "-" + nines() + "/" + tens(9215)},
		{tens(9000) + "/" + tens(9215), "1/" + tens(215)},
	} {
		x, f := rat.Parse(c.s)
		is(t, c.s, x, f.Err, c.want)
		if f != (api.Fault{}) {
			t.Error(f)
		}
	}
}

// parseFails checks that a text has a fault, and no number.
func parseFails(t *testing.T, s string, want api.Fault) {
	t.Helper()
	if x, f := rat.Parse(s); f != want || !empty(x) {
		t.Errorf("%.40q: %v, %v, not %v", s, short(x), f, want)
	}
}

// P2.5
func TestParseSyntax(t *testing.T) {
	for _, c := range []struct {
		s  string
		at int
	}{
		{"", 0},
		{"-", 1},
		{"/", 0},
		{"-/", 1},
		{"/2", 0},
		{"-/2", 1},
		{"1/", 2},
		{"-1/", 3},
		{"01", 0},
		{"-01", 1},
		{"00", 0},
		{"1/02", 2},
		{"-12/02", 4},
		{"1/00", 2},
		{"01/02", 0},
		{"01/0", 0},
		{"/0", 0},
		{"1-2", 1},
		{"--1", 1},
		{"1/-2", 2},
		{"-1/-2", 3},
		{"1//2", 2},
		{"1/2/3", 3},
		{"1/2/", 3},
		{"//", 1},
		{"1-2//3", 1},
		{"1//2-3", 2},
		{"01//2", 3},
		{"/1-", 2},
		{"1-2x", 3},
		{"1//2 ", 4},
		{"x--", 0},
		{"1/2x", 3},
		{"1/0x", 3},
		{"+1", 0},
		{" 1", 0},
		{"1 ", 1},
		{"1.5", 1},
		{"1,5", 1},
		{"1:2", 1},
		{"1\n", 1},
		{"1\x00", 1},
		{"12\xff", 2},
		{"1\xef\xbf\xbd", 1},
		{"1\u06632", 1},
		{"1\u22122", 1},
		{"1\u20442", 1},
		{"01/9" + nines(), 0},
		{strings.Repeat("9", 19999) + "x", 19999},
		{strings.Repeat("9", 19999) + "-", 19999},
	} {
		parseFails(t, c.s, api.Fault{Err: api.ErrSyntax, At: c.at})
	}
}

// P2.5
func TestParseLongAndZero(t *testing.T) {
	long := func(at int) api.Fault { return api.Fault{Err: api.ErrLong, At: at} }
	zero := func(at int) api.Fault { return api.Fault{Err: api.ErrZero, At: at} }
	for _, c := range []struct {
		s    string
		want api.Fault
	}{
		{"1/0", zero(2)},
		{"0/0", zero(2)},
		{"-5/0", zero(3)},
		{"123/0", zero(4)},
		{nines() + "/0", zero(9217)},
		{"9" + nines(), long(9216)},
		{"-9" + nines(), long(9217)},
		{"9" + nines() + "/0", long(9216)},
		{"1/9" + nines(), long(9218)},
		{"-1/9" + nines(), long(9219)},
		{nines() + "/9" + nines(), long(9217 + 9216)},
		{"0" + nines(), long(9216)},
		{strings.Repeat("9", 20000), long(9216)},
		{strings.Repeat("9", 20001), long(20000)},
		{strings.Repeat("x", 20001), long(20000)},
		{strings.Repeat("-", 30000), long(20000)},
		{"1/" + strings.Repeat("0", 20000), long(20000)},
	} {
		parseFails(t, c.s, c.want)
	}
}

// P2.9
func TestTextsAndNumbers(t *testing.T) {
	triples(t, func(t *testing.T, a, b, c api.Rat) {
		s, e := rat.Text(a)
		x, f := rat.Parse(s)
		if e != api.OK || f != (api.Fault{}) || !equal(x, a) || !equal(number(s), a) {
			t.Fatal(a, s, e, x, f)
		}
	})
}

// P2.9
func TestCommonFactors(t *testing.T) {
	s := source(9)
	digits := func(a, b api.Nat) string {
		product, e := nat.Mul(a, b)
		text, f := nat.Text(product)
		if e != api.OK || f != api.OK {
			t.Fatal(e, f)
		}
		return text
	}
	for range 3000 {
		a, factor := s.number(6), s.natural(4)
		if len(factor) == 0 {
			factor = api.Nat{uint32(2 + s.below(10))}
		}
		text := digits(a.Num, factor) + "/" + digits(a.Den, factor)
		if a.Neg {
			text = "-" + text
		}
		x, f := rat.Parse(text)
		if f != (api.Fault{}) || !equal(x, a) {
			t.Fatal(a, factor, x, f)
		}
		num, _ := nat.Mul(a.Num, factor)
		den, _ := nat.Mul(a.Den, factor)
		if x = must(t)(rat.Make(a.Neg, num, den)); !equal(x, a) {
			t.Fatal(a, factor, x)
		}
	}
}
