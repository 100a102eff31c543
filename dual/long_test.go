package dual_test

import (
	"slices"
	"testing"

	"parlour/api"
	"parlour/dual"
	"parlour/rat"
)

// P5.2: gaps of as many limbs as there may be, and of more.
func TestLongGaps(t *testing.T) {
	n := nines()
	for i, c := range []struct {
		p    api.Program
		x, y string
		gap  string
		e    api.Errno
	}{
		{program(n, "0", "1"), "0", "1", n, api.OK},
		{program(n, "0", "1"), "0", "2", "", api.ErrOver},
		{program(n, "1", "1"), "0", "1", n, api.OK},
		{program(n, "-1", "1"), "1", "1", "", api.ErrOver},
		{program("1/"+n, "0", "1"), "0", "1", "1/" + n, api.OK},
		{program("1/"+n, "0", "1"), "0", "1/2", "", api.ErrOver},
		{program("1/"+n, "0", "1"), "0", "3", "3/" + n, api.OK},
		{program(tens(9000), "0", "1"), "0", "1/" + tens(9000), "1", api.OK},
		{program(n, n, "1"), "1", n, "", api.ErrOver},
		// Products and sums that are short in lowest terms.
		{program(n+"/"+tens(9215), "0", "1"), "0", tens(9215) + "/" + n, "1", api.OK},
		{program("1/"+n+" 1/"+n, "0", "1", "1"), "0", "1 1", "2/" + n, api.OK},
		// The errors that come before ErrOver.
		{program(n, n, "1"), n, "1", "", api.ErrState},
		{program(n, n, "1/"+n), n + " 1", n, "", api.ErrType},
	} {
		gap, e := dual.Gap(c.p, vec(c.x), vec(c.y))
		if e != c.e || e == api.OK && !equalNumbers(gap, number(c.gap)) || e != api.OK && !equalNumbers(gap, api.Rat{}) {
			t.Error(i, show(api.Vec{gap}), e, c.e)
		}
	}
}

// P5.2 and P5.5: gaps are short also if they are differences of long numbers, and 0 exactly if Slack says so.
func TestLongComplements(t *testing.T) {
	n := nines()
	p, x := program(n, n, "1"), vec(n)
	m := n[9:]
	few := "1/" + n + " 1/" + tens(9215)
	for i, c := range []struct {
		p     api.Program
		x, y  string
		gap   string
		slack bool
	}{
		{p, n, n, "0", true},
		{program(few, few, "1 0", "0 1"), few, few, "0", true},
		{program(m+"/2", m, "1"), m[1:] + "7/2", m, m, false},
	} {
		gap, e := dual.Gap(c.p, vec(c.x), vec(c.y))
		if e != api.OK || !equalNumbers(gap, number(c.gap)) {
			t.Error(i, show(api.Vec{gap}), e)
		}
		slack, e := dual.Slack(c.p, vec(c.x), vec(c.y))
		is(t, showProgram(c.p), slack, e, c.slack)
	}
	got, e := dual.Slack(p, vec("1"), x)
	is(t, "the greatest numbers and 1", got, e, false)
}

// P5.1 and P5.3: what is true or false is so for all numbers, also if the products on the way have too many limbs.
func TestLongNumbers(t *testing.T) {
	n, other := nines(), tens(9215)
	part := n + "/998244353"
	for _, c := range []struct {
		p        api.Program
		x        string
		feasible bool
		tight    []int
	}{
		{program(n, "0", n), n, false, nil},
		{program(n, "0", "-"+n), n, true, nil},
		{program("1/"+n, "0", "1/"+n), "1/" + other, true, nil},
		{program("0", "0", "1/"+n), "1/" + other, false, nil},
		{program("0", "0", "-1/"+n), "1/" + other, true, nil},
		{program("0", "0 0", n+" -"+other), other + " " + n, true, []int{0}},
		{program("0", "0 0 0 0", part+" "+part+" -"+part+" -"+part), n + " " + n + " " + n + " " + n, true, []int{0}},
		{program("-1/"+n, "0 0", n+" -"+other), other + " " + n, false, nil},
		{program("1/"+n, "0 0", n+" -"+other), other + " " + n, true, nil},
		{program("0 0 0", "0 0", n+" -"+n, n+" -"+other, "1/"+n+" -1/"+other), other + " " + n, true, []int{1}},
		{program("0 0 0", "0 0", other+" -"+n, n+" -"+other, "1/"+n+" -1/"+other), other + " " + n, true, []int{1}},
		{program("0 0", "0 0", n+" -"+other, "-1/"+n+" 1/"+other), other + " " + n, false, nil},
		{program("0 0", "0 0", n+" -"+other, "1/"+n+" -1/"+other), other + " " + n, true, []int{0}},
		{program("1/"+n, "0 0", "1/"+other+" 0"), n + "/" + tens(5000) + " 0", false, nil},
	} {
		got, e := dual.Feasible(c.p, vec(c.x))
		is(t, showProgram(c.p), got, e, c.feasible)
		if tight, e := dual.Tight(c.p, vec(c.x)); !slices.Equal(tight, c.tight) || (e == api.OK) != c.feasible {
			t.Error(showProgram(c.p), tight, e)
		}
	}
	for _, c := range []struct {
		p    api.Program
		s    api.Solution
		want bool
	}{
		{program(n, n, "1"), best(n, n, n), false},
		{program(n, n, "1"), best("0", n, n), false},
		{program("1/"+n, n, "1"), best("1", "1/"+n, n), true},
		{program("-"+n, "0", "1"), none(n), true},
		{program(n, "0", "1"), none(n), false},
		{program("-1 0", "0 0", n+" -1/"+n, "-"+other+" 1/"+other), none(other + " " + n), true},
		{program("-1 0", "0 0", n+" 1/"+n, "-"+other+" -1/"+other), none(other + " " + n), false},
		{program("1 1", n+" -1", "-"+n+" 1", "1/"+n+" -1"), growing("0 0", n+" "+n), true},
		{program("1 1", n+" -1", "-"+n+" 1", "1 -1/"+n), growing("0 0", n+" "+n), false},
		{program("1", "-"+n+" "+other, "0 0"), growing("0 0", other+" "+n), false},
		{program("1", "-"+n+" "+n, "0 0"), growing("0 0", other+" "+n), true},
	} {
		accepts(t, c.p, c.s, c.want)
	}
}

// long returns a fraction whose parts have this many limbs.
func (s *source) long(limbs int) api.Rat {
	num, den := make(api.Nat, limbs), make(api.Nat, limbs)
	for i := range num {
		num[i], den[i] = uint32(1+s.below(api.Limb-1)), uint32(1+s.below(api.Limb-1))
	}
	return must(rat.Make(s.below(2) > 0, num, den))
}

// P5.1: sums of products whose parts grow to thousands of limbs, and are 0 at last.
func TestLongSums(t *testing.T) {
	s := source(7)
	for round := range 9 {
		var row, x api.Vec
		for range 1 + round/3 {
			a, b := s.long(100+s.below(250)), s.long(100+s.below(250))
			b.Neg = false
			row, x = append(row, a), append(x, b)
		}
		for k, a := range row {
			a.Neg = !a.Neg
			row, x = append(row, a), append(x, x[k])
		}
		for i := range row {
			k := s.below(i + 1)
			row[i], row[k], x[i], x[k] = row[k], row[i], x[k], x[i]
		}
		for bound, want := range map[string]bool{"0": true, "1/" + nines(): true, "-1/" + nines(): false} {
			p := api.Program{A: api.Mat{row}, B: vec(bound), C: zeros(len(row))}
			got, e := dual.Feasible(p, x)
			is(t, show(row, x), got, e, want)
			if tight, _ := dual.Tight(p, x); (len(tight) == 1) != (bound == "0") {
				t.Error(show(row, x), tight)
			}
		}
	}
}
