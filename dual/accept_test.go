package dual_test

import (
	"slices"
	"testing"

	"parlour/api"
	"parlour/dual"
)

// accepts checks whether a solution is a certificate.
func accepts(t *testing.T, p api.Program, s api.Solution, want bool) {
	t.Helper()
	if got, e := dual.Accepts(p, s); got != want || e != api.OK {
		t.Errorf("%s; %d %s; X, Dual, Ray %s: %v, %v", showProgram(p), s.Status, show(api.Vec{s.Value}), show(s.X, s.Dual, s.Ray), got, e)
	}
}

// stuck has no feasible x: its rows 0 and 1 exclude each other. open has no greatest value.
func stuck() api.Program { return program("1 -2 5", "1 1", "1 1", "-1 -1", "1 0") }
func open() api.Program  { return program("2", "1 -1/2", "1 -1") }

// P5.3
func TestAccepts(t *testing.T) {
	for _, c := range []struct {
		p    api.Program
		s    api.Solution
		want bool
	}{
		{some(), best("12", "4 0", "3 0"), true},
		{some(), best("13", "4 0", "3 0"), false},
		{some(), best("12", "4 0", "3 1"), false},
		{some(), best("12", "3 1", "3 0"), false},
		{some(), best("11", "3 1", "3 0"), false},
		{some(), best("12", "4 0", "0 2"), false},
		{some(), best("12", "4 0", "6 -2"), false},
		{some(), best("12", "5 -1", "3 0"), false},
		{some(), best("15", "5 0", "3 0"), false},
		{some(), best("14", "2 4", "2 1"), false},
		{some(), best("6", "2 0", "3/2 0"), false},
		// Both are feasible and have the same value, but it is another one.
		{some(), best("-12", "4 0", "3 0"), false},
		{some(), best("0", "4 0", "3 0"), false},
		{program("", ""), best("0", "", ""), true},
		{program("", ""), best("1", "", ""), false},
		{program("", "0 -1"), best("0", "5 0", ""), true},
		{program("", "0 -1"), best("-1", "5 1", ""), false},
		{program("0 3", "", "", ""), best("0", "", "7 0"), true},
		{program("0 3", "", "", ""), best("3", "", "7 1"), false},
		{program("0 3", "", "", ""), best("0", "", "-1 0"), false},

		{stuck(), none("1 1 0"), true},
		{stuck(), none("1/2 1/3 1"), false},
		{stuck(), none("3/2 1 0"), true},
		{stuck(), none("2 1 0"), false},
		{stuck(), none("0 1 0"), false},
		{stuck(), none("-1 -1 0"), false},
		{stuck(), none("1 2 1"), false},
		{stuck(), none("1 1 1/9"), true},
		{stuck(), none("1 1 1/5"), false},
		{stuck(), none("0 0 0"), false},
		{some(), none("1 1"), false},
		{some(), none("-1 0"), false},
		{program("0 -3", "", "", ""), none("0 1/9"), true},
		{program("0 -3", "", "", ""), none("0 0"), false},
		{program("", "1"), none(""), false},
		{program("-1", "0", "1"), none("1"), true},
		{program("-1", "5", "1"), none("1/7"), true},

		{open(), growing("5/2 1/2", "3 3"), true},
		{open(), growing("0 0", "1 1"), true},
		{open(), growing("5/2 1/2", "2 3"), true},
		{open(), growing("5/2 1/2", "4 3"), false},
		{open(), growing("5/2 1/2", "2 4"), false},
		{open(), growing("5/2 1/2", "1 3"), false},
		{open(), growing("3 1/2", "3 3"), false},
		{open(), growing("-1 0", "3 3"), false},
		{program("2", "-1 -1/2", "1 -1"), growing("2 0", "-1 0"), false},
		{some(), growing("4 0", "0 0"), false},
		{some(), growing("4 0", "-1 -1"), false},
		{some(), growing("4 0", "1 1"), false},
		{program("", "0 1"), growing("2 2", "0 1/3"), true},
		{program("", "0 1"), growing("2 2", "1/3 0"), false},
		{program("", ""), growing("", ""), false},
		{program("0", "1", "-1"), growing("0", "1"), true},
	} {
		accepts(t, c.p, c.s, c.want)
	}
}

// certified returns a program of each status, with a certificate.
func certified() map[int]api.Program {
	return map[int]api.Program{
		api.Optimal:    some(),
		api.Infeasible: stuck(),
		api.Unbounded:  open(),
	}
}

func certificate(status int) api.Solution {
	return map[int]api.Solution{
		api.Optimal:    best("12", "4 0", "3 0"),
		api.Infeasible: none("1 1 0"),
		api.Unbounded:  growing("5/2 1/2", "3 3"),
	}[status]
}

// P5.3: a solution with another status, or with a part that is missing, or too much, proves nothing.
func TestPartsOfSolutions(t *testing.T) {
	invalid := append(flaws(), vec("0"), vec("0 0"), vec("0 0 0"), vec("1"), vec("1 1"), vec("1 1 1"))
	for status, p := range certified() {
		accepts(t, p, certificate(status), true)
		for _, other := range []int{0, 4, -1, 1 << 62, -1 << 63, api.Optimal, api.Infeasible, api.Unbounded} {
			s := certificate(status)
			s.Status = other
			accepts(t, p, s, other == status)
		}
		for _, v := range invalid {
			s := certificate(status)
			s.Ray = v
			accepts(t, p, s, status == api.Unbounded && equalLists(v, vec("1 1")) || status != api.Unbounded && len(v) == 0)
			s = certificate(status)
			s.X = v
			accepts(t, p, s, status == api.Unbounded && (equalLists(v, vec("0 0")) || equalLists(v, vec("1 1"))) || status == api.Infeasible && len(v) == 0)
			s = certificate(status)
			s.Dual = v
			accepts(t, p, s, status == api.Unbounded && len(v) == 0)
		}
		for _, x := range []api.Rat{
			{}, number("1"), number("-1"), number("1/" + tens(9000)), {Neg: true, Den: api.Nat{1}}, {Den: api.Nat{2}}, {Num: api.Nat{0}, Den: api.Nat{1}},
			{Num: api.Nat{12}, Den: api.Nat{0}}, {Num: api.Nat{24}, Den: api.Nat{2}}, {Num: api.Nat{12, 0}, Den: api.Nat{1}}, {Num: api.Nat{12}},
			{Num: slices.Repeat(api.Nat{1}, 5000), Den: slices.Repeat(api.Nat{1}, 5000)},
		} {
			s := certificate(status)
			s.Value = x
			accepts(t, p, s, false)
		}
		s := certificate(status)
		s.X, s.Dual, s.Ray = append(api.Vec{}, s.X...), append(api.Vec{}, s.Dual...), append(api.Vec{}, s.Ray...)
		accepts(t, p, s, true)
	}
}

// lists returns where the lists of a solution are.
func lists(s *api.Solution) [3]*api.Vec { return [3]*api.Vec{&s.X, &s.Dual, &s.Ray} }

// P5.3: equal numbers in another form are no valid ones.
func TestFormsOfNumbers(t *testing.T) {
	longer := func(n api.Nat) api.Nat { return append(slices.Clone(n), 0) }
	double := func(n api.Nat) api.Nat {
		if len(n) == 0 {
			return n
		}
		return api.Nat{2 * n[0]}
	}
	for status, p := range certified() {
		for i, list := range lists(new(certificate(status))) {
			for k, x := range *list {
				for _, bad := range []api.Rat{
					{}, {Neg: true, Num: x.Num, Den: x.Den}, {Num: double(x.Num), Den: double(x.Den)},
					{Num: longer(x.Num), Den: x.Den}, {Num: x.Num, Den: longer(x.Den)}, {Num: x.Num},
				} {
					s := certificate(status)
					*lists(&s)[i] = with(*list, k, bad)
					accepts(t, p, s, false)
				}
			}
		}
	}
}
