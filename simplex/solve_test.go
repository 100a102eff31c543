package simplex_test

import (
	"slices"
	"testing"

	"parlour/api"
	"parlour/simplex"
)

// solved returns the solution of a program, which must be a certificate.
func solved(t *testing.T, p api.Program) api.Solution {
	t.Helper()
	s, e := simplex.Solve(p)
	if e != api.OK || !proves(p, s) {
		t.Fatalf("%s: %v, %d; value %s; X, Dual, Ray %s", showProgram(p), e, s.Status, show(api.Vec{s.Value}), show(s.X, s.Dual, s.Ray))
	}
	return s
}

// P4.4
func TestSolve(t *testing.T) {
	for i, c := range []struct {
		p      api.Program
		status int
		value  string
	}{
		{some(), api.Optimal, "12"},
		{program("-1", "0", "1"), api.Infeasible, "0"},
		{program("0", "1", "-1"), api.Unbounded, "0"},
		{api.Program{}, api.Optimal, "0"},
		// Without rows every x >= 0 is feasible; without columns only the x without elements may be.
		{program("", "0 -1"), api.Optimal, "0"},
		{program("", "-1 1/2"), api.Unbounded, "0"},
		{program("0 3/2", "", "", ""), api.Optimal, "0"},
		{program("0 -3/2 -1", "", "", "", ""), api.Infeasible, "0"},
		// A row of zeros.
		{program("0", "-1", "0"), api.Optimal, "0"},
		{program("1", "1", "0"), api.Unbounded, "0"},
		{program("-1/9", "1", "0"), api.Infeasible, "0"},
		// The x without slacks is not feasible.
		{program("-3 2 2", "-1 -2", "-1 -1", "1 0", "0 1"), api.Optimal, "-4"},
		{program("-2", "-1", "-1"), api.Optimal, "-2"},
		{program("-2", "1", "-1"), api.Unbounded, "0"},
		{program("-2", "0", "-1"), api.Optimal, "0"},
		{program("-2 1", "1", "-1", "1"), api.Infeasible, "0"},
		{program("-2 2", "1", "-1", "1"), api.Optimal, "2"},
		{program("-2 -3 7/2", "-1", "-1", "-1", "1"), api.Optimal, "-3"},
		{program("-2 -3 5/2", "-1", "-1", "-1", "1"), api.Infeasible, "0"},
		{program("-1 -1 -1", "-1 -1 -1", "-1 -1 0", "0 -1 -1", "-1 0 -1"), api.Optimal, "-3/2"},
		{program("-1 -1", "1 1", "1 -2", "-2 1"), api.Unbounded, "0"},
		{program("-1 -1", "1 1", "1 -1", "-1 1"), api.Infeasible, "0"},
		// A distribution, as two rows: the best element.
		{program("1 -1", "2 7/2 -1", "1 1 1", "-1 -1 -1"), api.Optimal, "7/2"},
		{program("1 -1 -1/2", "2 7/2 -1", "1 1 1", "-1 -1 -1", "0 0 -1"), api.Optimal, "5/4"},
		// Programs for which other rules never end.
		{program("0 0 1", "10 -57 -9 -24", "1/2 -11/2 -5/2 9", "1/2 -3/2 -1/2 1", "1 0 0 0"), api.Optimal, "1"},
		{program("0 0 1", "3/4 -150 1/50 -6", "1/4 -60 -1/25 9", "1/2 -90 -1/50 3", "0 0 1 0"), api.Optimal, "1/20"},
		{program("0 0", "23/10 43/20 -271/20 -2/5", "2/5 1/5 -7/5 -1/5", "-39/5 -7/5 39/5 2/5"), api.Unbounded, "0"},
		// A program with many corners.
		{program("1 100 10000 1000000", "1000 100 10 1", "1 0 0 0", "20 1 0 0", "200 20 1 0", "2000 200 20 1"), api.Optimal, "1000000"},
	} {
		s := solved(t, c.p)
		if s.Status != c.status || !equalNumbers(s.Value, number(c.value)) {
			t.Error(i, s.Status, show(api.Vec{s.Value}), c.status, c.value)
		}
	}
	s := solved(t, some())
	if !equalLists(s.X, vec("4 0")) || !equalLists(s.Dual, vec("3 0")) {
		t.Error(show(s.X, s.Dual))
	}
}

// P4.4
func TestErrorsOfSolve(t *testing.T) {
	big := program("1", "1", "1")
	for i, c := range []struct {
		p    api.Program
		want api.Errno
	}{
		{program("4", "3 2", "1 1", "1 3"), api.ErrType},
		{program("4 6", "3 2", "1 1", "1"), api.ErrForm},
		{api.Program{A: big.A, B: big.B, C: api.Vec{{}}}, api.ErrZero},
		{api.Program{C: repeated(41)}, api.ErrLong},
		{program(nines(), "1", "1/2"), api.ErrOver},
		{program(nines(), nines(), "1"), api.ErrOver},
		{program("-1/"+nines(), "-1", "-2"), api.ErrOver},
	} {
		s, e := simplex.Solve(c.p)
		if e != c.want || !equalSolutions(s, api.Solution{}) {
			t.Error(i, e, c.want, s.Status, show(s.X, s.Dual, s.Ray))
		}
		d, e := simplex.Start(c.p)
		if want := simplex.Check(c.p); e != want || want != api.OK && !equalDicts(d, api.Dict{}) {
			t.Error(i, e, want, showDict(d))
		}
	}
}

// P4.4: all kinds of programs, of all shapes.
func TestCertificates(t *testing.T) {
	found := map[int]int{}
	shapes(func(s *source, rows, columns int) {
		for _, low := range [][2]int{{-3, -4}, {-1, -3}, {-5, 0}, {-1, -9}} {
			found[solved(t, s.program(rows, columns, low[0], low[1])).Status]++
		}
	})
	for _, status := range []int{api.Optimal, api.Infeasible, api.Unbounded} {
		if found[status] < 100 {
			t.Error(found)
		}
	}
}

// P4.4: rows that hold with equality, as pairs of rows, are degenerate.
func TestEquations(t *testing.T) {
	s := source(23)
	found := map[int]int{}
	for i := range 200 {
		columns := 1 + i%7
		p := s.program(1+s.below(4), columns, -2, -3)
		p.C = s.list(columns, -5, 1)
		inside := s.list(columns, 0, 4)
		if s.below(3) > 0 {
			p.B = times(p, inside)
		}
		for k, row := range slices.Clone(p.A) {
			p.A = append(p.A, minus(zeros(columns), row))
			p.B = append(p.B, minus(zeros(1), p.B[k:k+1])...)
		}
		found[solved(t, p).Status]++
	}
	if found[api.Optimal] < 50 || found[api.Infeasible] < 10 || found[api.Unbounded] < 10 {
		t.Error(found)
	}
}

// P4.4: programs of the greatest size.
func TestGreatestSize(t *testing.T) {
	s := source(29)
	great := func(low, high int) api.Program {
		var p api.Program
		for range 40 {
			row := api.Vec{}
			for range 40 {
				row = append(row, must(ofInt(low+s.below(high-low+1))))
			}
			p.A, p.B, p.C = append(p.A, row), append(p.B, must(ofInt(s.below(30)-3))), append(p.C, must(ofInt(s.below(20))))
		}
		return p
	}
	for _, p := range []api.Program{great(-1, 1), great(-3, 4), great(0, 3)} {
		solved(t, p)
	}
	// Each x is at most 1, or at least 1 and at most 2.
	var p api.Program
	for k := range 20 {
		p.A = append(p.A, unit(20, k, "1"), unit(20, k, "-1"))
		p.B = append(p.B, vec("2 -1")...)
		p.C = append(p.C, must(ofInt(k-10)))
	}
	if s := solved(t, p); s.Status != api.Optimal || !equalNumbers(s.Value, number("35")) {
		t.Error(s.Status, show(api.Vec{s.Value}, s.X))
	}
}

// P4.4: 10 rows and columns of numbers with parts of 4 limbs do not lead to ErrOver.
func TestLongPrograms(t *testing.T) {
	s := source(31)
	for _, size := range []int{3, 5, 7, 10} {
		var p api.Program
		for i := range size {
			row := api.Vec{}
			for k := range size {
				row = append(row, s.long(i != k && s.below(2) == 0, 4))
			}
			p.A, p.B, p.C = append(p.A, row), append(p.B, s.long(i%4 == 1, 4)), append(p.C, s.long(i%5 == 1, 4))
		}
		solved(t, p)
	}
}
