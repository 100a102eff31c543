package nat_test

import (
	"slices"
	"strings"
	"testing"

	"parlour/api"
	"parlour/nat"
)

// P1.4
func TestText(t *testing.T) {
	for _, c := range []struct {
		n    api.Nat
		want string
	}{
		{limbs(), "0"},
		{limbs(7), "7"},
		{limbs(10), "10"},
		{limbs(1234567890 % api.Limb), "234567890"},
		{limbs(0, 1), "1000000000"},
		{limbs(7, 12), "12000000007"},
		{limbs(20, 3, 400), "400000000003000000020"},
		{limbs(999999999, 999999999), "999999999999999999"},
		{greatest(), strings.Repeat("9", 9216)},
		{tens(9215), "1" + strings.Repeat("0", 9215)},
	} {
		if s, e := nat.Text(c.n); s != c.want || e != api.OK {
			t.Errorf("%v: %.40q, %v", short(c.n), s, e)
		}
	}
}

// P1.4
func TestParse(t *testing.T) {
	for _, c := range []struct {
		s    string
		want api.Nat
	}{
		{"0", limbs()},
		{"1", limbs(1)},
		{"10", limbs(10)},
		{"123456789", limbs(123456789)},
		{"1234567890", limbs(234567890, 1)},
		{"1000000000", limbs(0, 1)},
		{"900000000000000000001", limbs(1, 0, 900)},
		{"1000000000000000000000000000", limbs(0, 0, 0, 1)},
		{strings.Repeat("9", 9216), greatest()},
		{"1" + strings.Repeat("0", 9215), tens(9215)},
	} {
		n, f := nat.Parse(c.s)
		if f != (api.Fault{}) || !slices.Equal(n, c.want) {
			t.Errorf("%.40q: %v, %v", c.s, short(n), f)
		}
	}
}

// P1.4
func TestParseFaults(t *testing.T) {
	nines := strings.Repeat("9", 9216)
	for _, c := range []struct {
		s    string
		want api.Fault
	}{
		{"", api.Fault{Err: api.ErrSyntax, At: 0}},
		{"00", api.Fault{Err: api.ErrSyntax, At: 0}},
		{"007", api.Fault{Err: api.ErrSyntax, At: 0}},
		{"01", api.Fault{Err: api.ErrSyntax, At: 0}},
		{strings.Repeat("0", 9216), api.Fault{Err: api.ErrSyntax, At: 0}},
		{"12a", api.Fault{Err: api.ErrSyntax, At: 2}},
		{"a12b", api.Fault{Err: api.ErrSyntax, At: 0}},
		{"1a2b", api.Fault{Err: api.ErrSyntax, At: 1}},
		{"0a", api.Fault{Err: api.ErrSyntax, At: 1}},
		{"007a", api.Fault{Err: api.ErrSyntax, At: 3}},
		{"-1", api.Fault{Err: api.ErrSyntax, At: 0}},
		{"+1", api.Fault{Err: api.ErrSyntax, At: 0}},
		{" 1", api.Fault{Err: api.ErrSyntax, At: 0}},
		{"1 ", api.Fault{Err: api.ErrSyntax, At: 1}},
		{"1\n", api.Fault{Err: api.ErrSyntax, At: 1}},
		{"1_000", api.Fault{Err: api.ErrSyntax, At: 1}},
		{"1.0", api.Fault{Err: api.ErrSyntax, At: 1}},
		{"5/", api.Fault{Err: api.ErrSyntax, At: 1}},
		{"55:", api.Fault{Err: api.ErrSyntax, At: 2}},
		{"12\x00", api.Fault{Err: api.ErrSyntax, At: 2}},
		{"12\xff", api.Fault{Err: api.ErrSyntax, At: 2}},
		{"1\u0663", api.Fault{Err: api.ErrSyntax, At: 1}},
		{"0x10", api.Fault{Err: api.ErrSyntax, At: 1}},
		{nines[1:] + "a", api.Fault{Err: api.ErrSyntax, At: 9215}},
		{nines + "9", api.Fault{Err: api.ErrLong, At: 9216}},
		{nines + "a", api.Fault{Err: api.ErrLong, At: 9216}},
		{"a" + nines, api.Fault{Err: api.ErrLong, At: 9216}},
		{"0" + nines, api.Fault{Err: api.ErrLong, At: 9216}},
		{nines + nines, api.Fault{Err: api.ErrLong, At: 9216}},
	} {
		n, f := nat.Parse(c.s)
		if f != c.want || len(n) != 0 {
			t.Errorf("%.40q: %v, %v, not %v", c.s, short(n), f, c.want)
		}
	}
}
