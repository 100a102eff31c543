package dual_test

import (
	"slices"
	"testing"

	"parlour/api"
	"parlour/dual"
	"parlour/rat"
)

// P5.1
func TestOf(t *testing.T) {
	for i, c := range []struct{ p, want api.Program }{
		{some(), program("-3 -2", "-4 -6", "-1 -1", "-1 -3")},
		{program("1 -2", "3 0 -4/5", "1 2 3", "0 -1/2 7"), program("-3 0 4/5", "-1 2", "-1 0", "-2 1/2", "-3 -7")},
		{api.Program{}, api.Program{}},
		// Without columns there are no rows, without rows there are rows without elements.
		{program("1 0 -2", "", "", "", ""), program("", "-1 0 2")},
		{program("", "1 0 -2"), program("-1 0 2", "", "", "", "")},
		{program(nines(), "1/"+nines(), "-"+nines()), program("-1/"+nines(), "-"+nines(), nines())},
	} {
		if got, e := dual.Of(c.p); e != api.OK || !equalPrograms(got, c.want) {
			t.Errorf("%d: %s, %v", i, showProgram(got), e)
		}
	}
}

// P5.1
func TestFeasible(t *testing.T) {
	for i, c := range []struct {
		p    api.Program
		x    string
		want bool
	}{
		{some(), "4 0", true},
		{some(), "4 1", false},
		{some(), "3 1", true},
		{some(), "0 2", true},
		{some(), "0 2001/1000", false},
		{some(), "1/3 17/9", true},
		{some(), "1/3 1701/900", false},
		{some(), "0 0", true},
		{some(), "-1 0", false},
		{some(), "0 -1/9", false},
		{some(), "-1 -1", false},
		{program("", ""), "", true},
		{program("", "5 6"), "1 0", true},
		{program("", "5 6"), "1 -1", false},
		{program("0 1", "", "", ""), "", true},
		{program("0 -1", "", "", ""), "", false},
		{program("-1", "0", "0"), "7", false},
		{program("-1", "0", "-1/7"), "7", true},
		{program("0 0", "1", "1", "-1"), "0", true},
	} {
		got, e := dual.Feasible(c.p, vec(c.x))
		is(t, showProgram(c.p)+" at "+c.x, got, e, c.want)
		if _, e := dual.Tight(c.p, vec(c.x)); (e == api.OK) != c.want || e != api.OK && e != api.ErrState {
			t.Error(i, e)
		}
	}
}

// P5.1
func TestTight(t *testing.T) {
	for i, c := range []struct {
		p    api.Program
		x    string
		want []int
		e    api.Errno
	}{
		{some(), "4 0", []int{0}, api.OK},
		{some(), "3 1", []int{0, 1}, api.OK},
		{some(), "0 2", []int{1}, api.OK},
		{some(), "0 0", nil, api.OK},
		{some(), "5 0", nil, api.ErrState},
		{some(), "4 -1", nil, api.ErrState},
		{program("0 1/3 0 2 -1/3", "", "", "", "", "", ""), "", nil, api.ErrState},
		{program("0 1/3 0 2", "", "", "", "", ""), "", []int{0, 2}, api.OK},
		{program("", "1"), "3", nil, api.OK},
		{program("1/2 1 1/2 -1/2", "0", "1/3", "1/3", "1/3", "-1/3"), "3/2", []int{0, 2, 3}, api.OK},
	} {
		if got, e := dual.Tight(c.p, vec(c.x)); e != c.e || !slices.Equal(got, c.want) || e != api.OK && got != nil {
			t.Error(i, got, e, c.want, c.e)
		}
	}
}

// P5.1 and P5.2: the definitions, for many programs.
func TestDefinitions(t *testing.T) {
	points, pairs, complementary := 0, 0, 0
	shapes(func(s *source, rows, columns int) {
		p := s.program(rows, columns, -1)
		for range 12 {
			x, y := s.list(columns, -s.below(2), 2), s.list(rows, -s.below(2), 3)
			inside, fine := feasible(p, x), feasibleMultipliers(p, y)
			got, e := dual.Feasible(p, x)
			is(t, showProgram(p)+" at "+show(x), got, e, inside)
			got, e = dual.Feasible(must(dual.Of(p)), y)
			is(t, showProgram(p)+" with "+show(y), got, e, fine)
			want := api.ErrState
			if inside {
				points++
				want = api.OK
			}
			var places []int
			for i, rest := range rests(p, x) {
				if inside && sign(rest) == 0 {
					places = append(places, i)
				}
			}
			if tight, e := dual.Tight(p, x); e != want || !slices.Equal(tight, places) {
				t.Fatal(showProgram(p), show(x), tight, e, places, want)
			}
			gap, e := dual.Gap(p, x, y)
			slack, e2 := dual.Slack(p, x, y)
			if !inside || !fine {
				if e != api.ErrState || e2 != api.ErrState || slack || !equalNumbers(gap, api.Rat{}) {
					t.Fatal(showProgram(p), show(x, y), e, e2)
				}
				continue
			}
			pairs++
			whole := products(y, rests(p, x)) && products(x, surplus(p, y))
			if whole {
				complementary++
			}
			is(t, showProgram(p)+" with "+show(x, y), slack, e2, whole)
			if e != api.OK || !equalNumbers(gap, must(rat.Sub(dot(p.B, y), dot(p.C, x)))) {
				t.Fatal(showProgram(p), show(x, y, api.Vec{gap}), e)
			}
		}
	})
	if points < 2000 || pairs < 300 || complementary < 30 || pairs-complementary < 200 {
		t.Error(points, pairs, complementary)
	}
}

// P5.2
func TestGapAndSlack(t *testing.T) {
	for i, c := range []struct {
		p     api.Program
		x, y  string
		gap   string
		slack bool
		e     api.Errno
	}{
		{some(), "3 1", "3 0", "1", false, api.OK},
		{some(), "4 0", "3 0", "0", true, api.OK},
		{some(), "4 0", "2 0", "", false, api.ErrState},
		{some(), "5 0", "3 0", "", false, api.ErrState},
		{some(), "5 0", "2 0", "", false, api.ErrState},
		{some(), "4 0", "3 -1", "", false, api.ErrState},
		{some(), "4 0", "-3 6", "", false, api.ErrState},
		{some(), "-1 0", "3 0", "", false, api.ErrState},
		{some(), "0 0", "0 3", "18", false, api.OK},
		{some(), "3 1", "5/2 1/2", "2", false, api.OK},
		// Only one half of the conditions is broken, the row's or the column's.
		{program("2", "1", "1"), "1", "1", "1", false, api.OK},
		{program("2", "1", "1"), "2", "2", "2", false, api.OK},
		{program("2", "1", "1"), "2", "1", "0", true, api.OK},
		{program("2 5", "1", "1", "1"), "2", "1/2 1/2", "3/2", false, api.OK},
		{program("2", "1 1/2", "1 1"), "1 1", "1", "1/2", false, api.OK},
		{program("0", "-1", "1"), "0", "0", "0", true, api.OK},
		{program("", ""), "", "", "0", true, api.OK},
		{program("", "0 -1"), "1 0", "", "0", true, api.OK},
		{program("", "0 -1"), "1 3/7", "", "3/7", false, api.OK},
		{program("", "0 1"), "0 0", "", "", false, api.ErrState},
		{program("0 2", "", "", ""), "", "3 1/4", "1/2", false, api.OK},
		{program("0 2", "", "", ""), "", "3 0", "0", true, api.OK},
		{program("0 -2", "", "", ""), "", "3 0", "", false, api.ErrState},
	} {
		gap, e := dual.Gap(c.p, vec(c.x), vec(c.y))
		if e != c.e || e == api.OK && !equalNumbers(gap, number(c.gap)) || e != api.OK && !equalNumbers(gap, api.Rat{}) {
			t.Error(i, show(api.Vec{gap}), e, c.gap, c.e)
		}
		if slack, e := dual.Slack(c.p, vec(c.x), vec(c.y)); e != c.e || slack != c.slack {
			t.Error(i, slack, e, c.slack, c.e)
		}
	}
}
