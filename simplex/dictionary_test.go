package simplex_test

import (
	"math"
	"slices"
	"testing"

	"parlour/api"
	"parlour/simplex"
)

// P4.2
func TestForm(t *testing.T) {
	square := slices.Repeat(api.Mat{repeated(40)}, 40)
	s := source(7)
	order := s.order(80)
	great := api.Dict{Basic: order[:40], Other: order[40:], Rows: square, Rest: repeated(40), Cost: repeated(40), Value: number("1")}
	wide := api.Dict{Basic: []int{0}, Other: order[:41], Rows: api.Mat{repeated(41)}, Rest: repeated(1), Cost: repeated(41), Value: number("1")}
	for i, c := range []struct {
		d    api.Dict
		want api.Errno
	}{
		{dict("", "", "", "", "0"), api.OK},
		{dict("2 3", "0 1", "4 6", "3 2", "0", "1 1", "1 3"), api.OK},
		{dict("0 2", "3 1", "-4 6/5", "-3 2", "-7/3", "0 0", "0 0"), api.OK},
		{dict("", "1 0", "", "3 2", "5"), api.OK},
		{dict("1 0", "", "3 2", "", "5", "", ""), api.OK},
		{great, api.OK},
		{wide, api.ErrLong},
		{api.Dict{Value: number("0")}, api.OK},
		{api.Dict{}, api.ErrZero},
		{dict("2", "0 1", "4 6", "3 2", "0", "1 1", "1 3"), api.ErrType},
		{dict("2 3 4", "0 1", "4 6", "3 2", "0", "1 1", "1 3"), api.ErrType},
		{dict("2 3", "0 1", "4", "3 2", "0", "1 1", "1 3"), api.ErrType},
		{dict("2 3", "0 1", "4 6 8", "3 2", "0", "1 1", "1 3"), api.ErrType},
		{dict("2 3", "0 1", "4 6", "3 2", "0", "1 1"), api.ErrType},
		{dict("2 3", "0 1", "4 6", "3 2", "0"), api.ErrType},
		{dict("2 3", "0", "4 6", "3 2", "0", "1 1", "1 3"), api.ErrType},
		{dict("2 3", "0 1 4", "4 6", "3 2", "0", "1 1", "1 3"), api.ErrType},
		{dict("2 3", "0 1", "4 6", "3", "0", "1 1", "1 3"), api.ErrType},
		{dict("2 3", "0 1", "4 6", "3 2 1", "0", "1 1", "1 3"), api.ErrType},
		{dict("2 3", "0 1", "4 6", "3 2", "0", "1", "1"), api.ErrType},
		{dict("2 3", "0 1", "4 6", "3 2", "0", "", ""), api.ErrType},
		{dict("", "0 1", "", "3", "0"), api.ErrType},
		{dict("0", "", "", "", "0"), api.ErrType},
		{dict("", "", "1", "", "0"), api.ErrType},
		{dict("2 3", "0 1", "4 6", "3 2", "0", "1 1", "1"), api.ErrForm},
		{dict("2 2", "0 1", "4 6", "3 2", "0", "1 1", "1 3"), api.ErrForm},
		{dict("2 3", "0 0", "4 6", "3 2", "0", "1 1", "1 3"), api.ErrForm},
		{dict("2 3", "0 2", "4 6", "3 2", "0", "1 1", "1 3"), api.ErrForm},
		{dict("2 4", "0 1", "4 6", "3 2", "0", "1 1", "1 3"), api.ErrForm},
		{dict("1 2", "3 4", "4 6", "3 2", "0", "1 1", "1 3"), api.ErrForm},
		{dict("2 3", "0 -1", "4 6", "3 2", "0", "1 1", "1 3"), api.ErrForm},
		{dict("1", "", "4", "", "0", ""), api.ErrForm},
		{dict("", "1", "", "4", "0"), api.ErrForm},
	} {
		if e := simplex.Form(c.d); e != c.want {
			t.Error(i, e, c.want)
		}
	}
	for _, v := range []int{math.MinInt, -1, 4, math.MaxInt} {
		d := dict("2 3", "0 1", "4 6", "3 2", "0", "1 1", "1 3")
		d.Basic[1] = v
		if e := simplex.Form(d); e != api.ErrForm {
			t.Error(v, e)
		}
	}
}

// P4.2, R1: the errors of the parts come first, from left to right; then ErrType, and at last ErrForm for the variables.
func TestOrderOfErrorsOfDictionaries(t *testing.T) {
	for a, x := range flawed() {
		for b, y := range flawed() {
			d := func() api.Dict { return dict("2 2", "0", "4 6", "3 2", "0", "1 1", "1 3") }
			for i, change := range []func(d *api.Dict){
				func(d *api.Dict) { d.Rows[1][0], d.Rest[0], d.Cost[0], d.Value = x, y, y, y },
				func(d *api.Dict) { d.Rest[1], d.Cost[0], d.Value = x, y, y },
				func(d *api.Dict) { d.Cost[1], d.Value = x, y },
				func(d *api.Dict) { d.Value = x },
			} {
				bad := d()
				if change(&bad); simplex.Form(bad) != a {
					t.Error(i, a, b, simplex.Form(bad))
				}
			}
		}
	}
	ragged := dict("2 2", "0", "4", "3", "0", "1 1", "1")
	ragged.Rest = append(ragged.Rest, api.Rat{})
	if e := simplex.Form(ragged); e != api.ErrForm {
		t.Error(e)
	}
	if e := simplex.Form(dict("2 2", "0", "4 6", "3 2", "0", "1 1", "1 3")); e != api.ErrType {
		t.Error(e)
	}
}

// P4.2
func TestPivot(t *testing.T) {
	for i, c := range []struct {
		d           api.Dict
		row, column int
		want        api.Dict
	}{
		{dict("2 3", "0 1", "4 6", "3 2", "0", "1 1", "1 3"), 0, 0, dict("0 3", "2 1", "4 2", "-3 -1", "12", "1 1", "-1 2")},
		{dict("2 3", "0 1", "4 6", "3 2", "0", "1 1", "1 3"), 0, 1, dict("1 3", "0 2", "4 -6", "1 -2", "8", "1 1", "-2 -3")},
		{dict("2 3", "0 1", "4 6", "3 2", "0", "1 1", "1 3"), 1, 0, dict("2 0", "3 1", "-2 6", "-3 -7", "18", "-1 -2", "1 3")},
		{dict("2 3", "0 1", "4 6", "3 2", "0", "1 1", "1 3"), 1, 1, dict("2 1", "0 3", "2 2", "7/3 -2/3", "4", "2/3 -1/3", "1/3 1/3")},
		{dict("0", "1", "3", "5", "7", "-2"), 0, 0, dict("1", "0", "-3/2", "5/2", "-1/2", "-1/2")},
		{dict("1", "0", "0", "0", "-7/3", "4"), 0, 0, dict("0", "1", "0", "0", "-7/3", "1/4")},
		{dict("3", "0 1 2", "5", "1 2 3", "0", "0 2 -4"), 0, 1, dict("1", "0 3 2", "5/2", "1 -1 7", "5", "0 1/2 -2")},
		{dict("3", "0 1 2", "5", "1 2 3", "0", "0 2 -4"), 0, 2, dict("2", "0 1 3", "-5/4", "1 7/2 3/4", "-15/4", "0 -1/2 -1/4")},
		{dict("1 2 3", "0", "1 -1/2 0", "-1", "1", "1/2", "0", "-2"), 0, 0, dict("0 2 3", "1", "2 -1/2 4", "2", "-1", "2", "0", "4")},
		{dict("0", "1", nines(), nines(), "0", nines()), 0, 0, dict("1", "0", "1", "-1", nines(), "1/"+nines())},
	} {
		d, e := simplex.Pivot(c.d, c.row, c.column)
		isDict(t, "Pivot "+string(rune('0'+i)), d, e, c.want)
	}
}

// P4.2: first the error of Form, then that of the places, then that of the element.
func TestErrorsOfPivot(t *testing.T) {
	fine := dict("2 3", "0 1", "4 6", "3 2", "0", "0 1", "1 0")
	for i, c := range []struct {
		d           api.Dict
		row, column int
		want        api.Errno
	}{
		{fine, 0, 2, api.ErrRange},
		{fine, 2, 0, api.ErrRange},
		{fine, -1, 0, api.ErrRange},
		{fine, 0, -1, api.ErrRange},
		{fine, math.MinInt, 0, api.ErrRange},
		{fine, 1, math.MaxInt, api.ErrRange},
		{fine, 0, 0, api.ErrZero},
		{fine, 1, 1, api.ErrZero},
		{dict("", "", "", "", "0"), 0, 0, api.ErrRange},
		{dict("", "0", "", "1", "0"), 0, 0, api.ErrRange},
		{dict("0", "", "1", "", "0", ""), 0, 0, api.ErrRange},
		{dict("2 3", "0 2", "4 6", "3 2", "0", "0 1", "1 0"), 0, 0, api.ErrForm},
		{dict("2 3", "0 1", "4 6", "3", "0", "0 1", "1 0"), 5, 0, api.ErrType},
		{api.Dict{}, 0, 0, api.ErrZero},
		{dict("0", "1", nines(), "0", "0", "1/2"), 0, 0, api.ErrOver},
		{dict("1", "0", "1", nines(), "0", "1/2"), 0, 0, api.ErrOver},
		{dict("1", "0", "0", nines(), "0", "1/2"), 0, 0, api.ErrOver},
		{dict("1", "0", nines(), "1", "1", "1"), 0, 0, api.ErrOver},
		{dict("1 2", "0", "0 0", "1", "1", "1/2", nines()), 0, 0, api.ErrOver},
		{dict("1", "0 2", "0", "0 0", "1", "2 1/"+nines()), 0, 0, api.ErrOver},
	} {
		d, e := simplex.Pivot(c.d, c.row, c.column)
		if e != c.want || !equalDicts(d, api.Dict{}) {
			t.Error(i, e, c.want, showDict(d))
		}
	}
}

// P4.2: 10 rows and columns of numbers with parts of 4 limbs do not lead to ErrOver, also after a pivot in each row.
func TestLongDictionaries(t *testing.T) {
	s := source(5)
	d := api.Dict{Value: s.long(true, 4)}
	for i := range 10 {
		var row api.Vec
		for range 10 {
			row = append(row, s.long(s.below(2) == 0, 4))
		}
		d.Basic, d.Other, d.Rows = append(d.Basic, i), append(d.Other, 19-i), append(d.Rows, row)
		d.Rest, d.Cost = append(d.Rest, s.long(i%3 == 0, 4)), append(d.Cost, s.long(i%4 == 0, 4))
	}
	after := d
	for i := range 10 {
		var e api.Errno
		if after, e = simplex.Pivot(after, i, 9-i); e != api.OK {
			t.Fatal(i, e)
		}
	}
	if !slices.Equal(after.Basic, ints("10 11 12 13 14 15 16 17 18 19")) || !slices.Equal(after.Other, ints("9 8 7 6 5 4 3 2 1 0")) {
		t.Error(after.Basic, after.Other)
	}
	if all, objective := values(d, s.list(10, -3, 3)); !fit(after, all, objective) {
		t.Error("not equivalent")
	}
}
