package simplex_test

import (
	"testing"

	"parlour/api"
	"parlour/rat"
	"parlour/simplex"
)

// P4.3
func TestNext(t *testing.T) {
	for i, c := range []struct {
		d                   api.Dict
		row, column, status int
	}{
		{dict("2 3", "0 1", "4 6", "3 2", "0", "1 1", "1 3"), 0, 0, 0},
		{dict("0 3", "2 1", "4 2", "-3 -1", "12", "1 1", "-1 2"), -1, -1, api.Optimal},
		{dict("", "", "", "", "0"), -1, -1, api.Optimal},
		{dict("", "0 1", "", "0 -1", "0"), -1, -1, api.Optimal},
		{dict("", "0 1", "", "-2 1", "0"), -1, 1, api.Unbounded},
		{dict("0 1", "", "1 0", "", "0", "", ""), -1, -1, api.Optimal},
		{dict("1", "0", "0", "1", "0", "-1"), -1, 0, api.Unbounded},
		{dict("1", "0", "0", "1", "0", "0"), -1, 0, api.Unbounded},
		{dict("1", "0", "0", "1", "0", "1/9"), 0, 0, 0},
		{dict("1", "0", "1", "-1", "0", "-1"), -1, -1, api.Optimal},
		// The least number counts, not the place: of the variables 4, 2 and 3 with a positive cost it is 2.
		{dict("0 1", "4 5 2 3", "3 4", "9 -1 1/9 5", "0", "1 1 1 1", "1 1 1 1"), 0, 2, 0},
		{dict("0 1", "4 2 3 5", "3 4", "9 0 1 5", "0", "1 1 1 1", "1 1 1 1"), 0, 2, 0},
		// The column is chosen first, also if no row limits it, or another one is not limited.
		{dict("0 1", "2 3", "3 4", "1 1", "0", "-1 1", "0 1"), -1, 0, api.Unbounded},
		{dict("0 1", "3 2", "3 4", "1 1", "0", "-1 1", "0 1"), 0, 1, 0},
		// The least quotient counts, not the least rest or the greatest element; elements that are not positive do not count.
		{dict("0 1 2", "3", "4 3 1", "1", "0", "8", "7", "1"), 1, 0, 0},
		{dict("0 1 2", "3", "9 10 0", "1", "0", "2", "3", "-1"), 1, 0, 0},
		{dict("0 1 2", "3", "0 10 0", "1", "0", "0", "3", "-1"), 1, 0, 0},
		{dict("0 1 2", "3", "1 1/2 1/3", "1", "0", "2/3", "1/4", "2/7"), 2, 0, 0},
		// Of equal quotients that of the basic variable with the least number counts.
		{dict("2 1 0", "3", "1 2 3", "1", "0", "1", "2", "3"), 2, 0, 0},
		{dict("2 0 1", "3", "1 2 3", "1", "0", "1", "2", "3"), 1, 0, 0},
		{dict("0 2 1", "3", "5 1/2 1/3", "1", "0", "4", "3/4", "1/2"), 2, 0, 0},
		{dict("2 1 0", "3", "0 0 0", "1", "0", "5", "7", "-3"), 1, 0, 0},
		{dict("3 0 1", "2", "0 0 1", "1", "0", "5", "7", "1"), 1, 0, 0},
	} {
		row, column, status, e := simplex.Next(c.d)
		if row != c.row || column != c.column || status != c.status || e != api.OK {
			t.Error(i, row, column, status, e)
		}
	}
}

// P4.3: quotients of numbers of any length are compared, also those that are too long themselves.
func TestLongQuotients(t *testing.T) {
	for i, c := range []struct {
		rests, first, second string
		row                  int
	}{
		{nines() + " " + less(), "1/" + less(), "1/" + less(), 1},
		{less() + " " + nines(), "1/" + less(), "1/" + less(), 0},
		{nines() + " " + less(), "1/" + less(), "1/" + nines(), 1},
		{nines() + " " + nines(), "1/" + nines(), "1/" + nines(), 1},
		{nines() + " " + nines(), "1/" + less(), "1/" + nines(), 0},
		{tens(9215) + " " + tens(9214), "1/" + tens(9000), "1/" + tens(9001), 1},
		{tens(9215) + " " + tens(9214), "1/" + tens(9001), "1/" + tens(9001), 1},
		{tens(9214) + " " + tens(9214), "1/" + tens(9000), "1/" + tens(9001), 0},
		{"1/" + nines() + " 1/" + less(), nines(), nines(), 0},
		{"1/" + less() + " 1/" + nines(), nines(), less(), 1},
		{"1/" + less() + " 1/" + nines(), nines() + "/2", less() + "/2", 1},
		{nines() + "/2 " + less() + "/4", "3/" + nines(), "1/" + less(), 0},
		{"0 1/" + nines(), "1/" + nines(), nines(), 0},
		{"0 0", "1/" + nines(), nines(), 1},
		{"1000000000 1000000001", "1", "1", 0},
		{"1000000001 1000000000", "1", "1", 0 + 1},
		{"1000000000 1", "1", "1/999999999", 1},
	} {
		d := dict("1 0", "2", c.rests, "1", "0", c.first, c.second)
		row, column, status, e := simplex.Next(d)
		if row != c.row || column != 0 || status != 0 || e != api.OK {
			t.Error(i, row, column, status, e)
		}
	}
}

// rule returns what the rule chooses, as the document says it.
func rule(d api.Dict) (row, column, status int) {
	row, column = -1, -1
	for j, v := range d.Other {
		if sign(d.Cost[j]) > 0 && (column < 0 || v < d.Other[column]) {
			column = j
		}
	}
	if column < 0 {
		return -1, -1, api.Optimal
	}
	var least api.Rat
	for i, v := range d.Basic {
		element := d.Rows[i][column]
		if sign(element) <= 0 {
			continue
		}
		quotient := must(rat.Div(d.Rest[i], element))
		if row < 0 || compare(quotient, least) < 0 || compare(quotient, least) == 0 && v < d.Basic[row] {
			row, least = i, quotient
		}
	}
	if row < 0 {
		return -1, column, api.Unbounded
	}
	return row, column, 0
}

// P4.3: Next chooses by the rule; Run makes the pivots that Next chooses, one after another, up to the first status.
func TestRunFollowsNext(t *testing.T) {
	most, ends := 0, map[int]int{}
	shapes(func(s *source, rows, columns int) {
		d := s.dict(rows, columns, 0)
		last, want, steps, e := simplex.Run(d)
		if e != api.OK {
			t.Fatal(showDict(d), e)
		}
		for count := 0; ; count++ {
			row, column, status, e := simplex.Next(d)
			r, c, s := rule(d)
			if row != r || column != c || status != s || e != api.OK {
				t.Fatal(showDict(d), row, column, status, e, "not", r, c, s)
			}
			if status != 0 {
				if status != want || count != steps || !equalDicts(d, last) {
					t.Fatal(showDict(d), showDict(last), count, steps, status, want)
				}
				break
			}
			d = must(simplex.Pivot(d, row, column))
		}
		most = max(most, steps)
		ends[want]++
	})
	if most < 5 || ends[api.Optimal] < 50 || ends[api.Unbounded] < 50 {
		t.Error(most, ends)
	}
}

// P4.3
func TestRun(t *testing.T) {
	for i, c := range []struct {
		d             api.Dict
		status, steps int
		want          api.Dict
	}{
		{dict("2 3", "0 1", "4 6", "3 2", "0", "1 1", "1 3"), api.Optimal, 1, dict("0 3", "2 1", "4 2", "-3 -1", "12", "1 1", "-1 2")},
		{dict("0 3", "2 1", "4 2", "-3 -1", "12", "1 1", "-1 2"), api.Optimal, 0, dict("0 3", "2 1", "4 2", "-3 -1", "12", "1 1", "-1 2")},
		{dict("1", "0", "0", "1", "5", "-1"), api.Unbounded, 0, dict("1", "0", "0", "1", "5", "-1")},
		{dict("", "", "", "", "-5"), api.Optimal, 0, dict("", "", "", "", "-5")},
		{dict("2", "0 1", "4", "1 1", "0", "2 -1"), api.Unbounded, 1, dict("0", "2 1", "2", "-1/2 3/2", "2", "1/2 -1/2")},
		{dict("2 3", "0 1", "0 0", "1 1", "0", "1 0", "0 1"), api.Optimal, 2, dict("0 1", "2 3", "0 0", "-1 -1", "0", "1 0", "0 1")},
	} {
		d, status, steps, e := simplex.Run(c.d)
		isDict(t, "Run "+string(rune('0'+i)), d, e, c.want)
		if status != c.status || steps != c.steps {
			t.Error(i, status, steps)
		}
	}
}

// P4.3: first the error of Form, then ErrState for a negative rest.
func TestErrorsOfRule(t *testing.T) {
	for i, c := range []struct {
		d    api.Dict
		want api.Errno
	}{
		{dict("2 3", "0 1", "4 -1", "3 2", "0", "1 1", "1 3"), api.ErrState},
		{dict("2 3", "0 1", "-1/"+nines()+" 0", "-3 -2", "0", "1 1", "1 3"), api.ErrState},
		{dict("0 1", "", "0 -1", "", "0", "", ""), api.ErrState},
		{dict("2 3", "0 2", "4 -1", "3 2", "0", "1 1", "1 3"), api.ErrForm},
		{dict("2 3", "0 1", "-1", "3 2", "0", "1 1", "1 3"), api.ErrType},
		{api.Dict{Rest: vec("-1")}, api.ErrZero},
		{api.Dict{}, api.ErrZero},
	} {
		row, column, status, e := simplex.Next(c.d)
		if row != 0 || column != 0 || status != 0 || e != c.want {
			t.Error(i, row, column, status, e)
		}
		last, status, steps, e := simplex.Run(c.d)
		if !equalDicts(last, api.Dict{}) || status != 0 || steps != 0 || e != c.want {
			t.Error(i, showDict(last), status, steps, e)
		}
	}
	for i, d := range []api.Dict{
		dict("0", "1", nines(), "1", "0", "1/2"),
		dict("0 1", "2 3", "1 "+nines(), "1 1", "0", "1 0", "0 1/2"),
	} {
		if row, _, status, e := simplex.Next(d); row != 0 || status != 0 || e != api.OK {
			t.Error(i, row, status, e)
		}
		last, status, steps, e := simplex.Run(d)
		if !equalDicts(last, api.Dict{}) || status != 0 || steps != 0 || e != api.ErrOver {
			t.Error(i, showDict(last), status, steps, e)
		}
	}
}
