package simplex_test

import (
	"testing"

	"parlour/api"
	"parlour/rat"
	"parlour/simplex"
	"parlour/vector"
)

// P4.5
func TestPivotsAreEquivalent(t *testing.T) {
	pivots := 0
	shapes(func(s *source, rows, columns int) {
		d := s.dict(rows, columns, -5)
		for i := range min(rows, 8) {
			for j := range min(columns, 8) {
				if sign(d.Rows[i][j]) == 0 {
					continue
				}
				after := must(simplex.Pivot(d, i, j))
				if after.Basic[i] != d.Other[j] || after.Other[j] != d.Basic[i] || simplex.Form(after) != api.OK {
					t.Fatal(d.Basic, d.Other, after.Basic, after.Other)
				}
				all, objective := values(d, s.list(columns, -5, 5))
				again, value := values(after, s.list(columns, -5, 5))
				if !fit(after, all, objective) || !fit(d, again, value) {
					t.Fatal(showDict(d), i, j, showDict(after))
				}
				// Values that do not fit the one do not fit the other.
				v := s.below(rows + columns)
				if all[v] = must(rat.Add(all[v], number("1/7"))); fit(d, all, objective) != fit(after, all, objective) {
					t.Fatal(showDict(d), i, j, showDict(after))
				}
				back, e := simplex.Pivot(after, i, j)
				isDict(t, "back", back, e, d)
				pivots++
			}
		}
	})
	if pivots < 1000 {
		t.Error(pivots)
	}
}

// P4.6: also for dictionaries most of whose rests are 0.
func TestRunEnds(t *testing.T) {
	idle := 0
	shapes(func(s *source, rows, columns int) {
		d := s.dict(rows, columns, 0)
		for i := range d.Rest {
			if s.below(4) > 0 {
				d.Rest[i] = number("0")
			}
		}
		last, status, steps, e := simplex.Run(d)
		if e != api.OK || simplex.Form(last) != api.OK || !none(last.Rest, -1) || compare(last.Value, d.Value) < 0 {
			t.Fatal(showDict(d), showDict(last), status, e)
		}
		if none(last.Cost, 1) != (status == api.Optimal) {
			t.Fatal(showDict(last), status)
		}
		if all, objective := values(d, s.list(columns, -5, 5)); !fit(last, all, objective) {
			t.Fatal(showDict(d), showDict(last))
		}
		if steps > 1 && equalNumbers(last.Value, d.Value) {
			idle++
		}
	})
	if idle < 30 {
		t.Error(idle)
	}
	// With another rule, this one comes back to its beginning after six pivots.
	circle := dict("4 5 6", "0 1 2 3", "0 0 1", "10 -57 -9 -24", "0", "1/2 -11/2 -5/2 9", "1/2 -3/2 -1/2 1", "1 0 0 0")
	last, status, _, e := simplex.Run(circle)
	if e != api.OK || status != api.Optimal || !equalNumbers(last.Value, number("1")) {
		t.Error(showDict(last), status, e)
	}
}

// nearby returns a point x >= 0, whose numbers are often 0.
func (s *source) nearby(size int) api.Vec { return s.list(size, 0, 4) }

// P4.7
func TestCertificatesProve(t *testing.T) {
	points := 0
	shapes(func(s *source, rows, columns int) {
		p := s.program(rows, columns, -2, -2)
		solution := solved(t, p)
		for range 20 {
			x := s.nearby(columns)
			if !feasible(p, x) {
				continue
			}
			points++
			if solution.Status == api.Infeasible || solution.Status == api.Optimal && compare(dot(p.C, x), solution.Value) > 0 {
				t.Fatal(showProgram(p), show(x), solution.Status, show(api.Vec{solution.Value}))
			}
		}
		if solution.Status != api.Unbounded {
			return
		}
		last := dot(p.C, solution.X)
		for _, far := range []string{"1/3", "1", "1000000", tens(30)} {
			x := must(vector.Add(solution.X, must(vector.Scale(solution.Ray, number(far)))))
			if !feasible(p, x) || compare(dot(p.C, x), last) <= 0 {
				t.Fatal(showProgram(p), show(x))
			}
			last = dot(p.C, x)
		}
	})
	if points < 1000 {
		t.Error(points)
	}
}

// dual returns the dual of a program.
func dual(p api.Program) api.Program {
	out := api.Program{B: minus(zeros(len(p.C)), p.C), C: minus(zeros(len(p.B)), p.B)}
	for k := range p.C {
		row := api.Vec{}
		for _, line := range p.A {
			row = append(row, line[k])
		}
		out.A = append(out.A, minus(zeros(len(row)), row))
	}
	return out
}

// P4.8
func TestDuals(t *testing.T) {
	found := map[[2]int]int{}
	shapes(func(s *source, rows, columns int) {
		p := s.program(rows, columns, -3, -3)
		one, other := solved(t, p), solved(t, dual(p))
		found[[2]int{one.Status, other.Status}]++
		if (one.Status == api.Optimal) != (other.Status == api.Optimal) || one.Status == api.Unbounded && other.Status != api.Infeasible {
			t.Fatal(showProgram(p), one.Status, other.Status)
		}
		if sum := must(rat.Add(one.Value, other.Value)); sign(sum) != 0 {
			t.Fatal(showProgram(p), show(api.Vec{one.Value, other.Value}))
		}
	})
	for _, pair := range [][2]int{{1, 1}, {2, 2}, {2, 3}, {3, 2}} {
		if found[pair] < 5 {
			t.Error(found)
		}
	}
}
