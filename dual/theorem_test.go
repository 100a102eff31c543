package dual_test

import (
	"testing"

	"parlour/api"
	"parlour/dual"
	"parlour/rat"
)

// P5.4
func TestDualOfDual(t *testing.T) {
	check := func(p api.Program) {
		t.Helper()
		if back := must(dual.Of(must(dual.Of(p)))); !equalPrograms(back, p) {
			t.Error(showProgram(p), showProgram(back))
		}
	}
	shapes(func(s *source, rows, columns int) { check(s.program(rows, columns, -3)) })
	for _, p := range []api.Program{{}, some(), program("1 -2", "", "", ""), program("", "1 0 -2"), program("-"+nines(), "1/"+nines(), "0")} {
		check(p)
	}
}

// P5.5
func TestGapsAreNeverNegative(t *testing.T) {
	pairs, closed := 0, 0
	shapes(func(s *source, rows, columns int) {
		p := s.program(rows, columns, -1)
		solution := solved(p)
		if solution.Status != api.Optimal {
			return
		}
		points, multipliers := []api.Vec{solution.X}, []api.Vec{solution.Dual}
		for range 20 {
			if x := s.list(columns, 0, 2); feasible(p, x) {
				points = append(points, x)
			}
			if y := s.list(rows, 0, 3); feasibleMultipliers(p, y) {
				multipliers = append(multipliers, y)
			}
		}
		for _, x := range points {
			for _, y := range multipliers {
				pairs++
				gap, slack := must(dual.Gap(p, x, y)), must(dual.Slack(p, x, y))
				if gap.Neg || slack != (sign(gap) == 0) {
					t.Fatal(showProgram(p), show(x, y, api.Vec{gap}), slack)
				}
				if !slack {
					continue
				}
				closed++
				if !equalNumbers(dot(p.C, x), solution.Value) || !equalNumbers(dot(p.B, y), solution.Value) {
					t.Fatal(showProgram(p), show(x, y, api.Vec{solution.Value}))
				}
			}
		}
		if !must(dual.Slack(p, solution.X, solution.Dual)) {
			t.Fatal(showProgram(p), show(solution.X, solution.Dual))
		}
	})
	if pairs < 2000 || closed < 300 {
		t.Error(pairs, closed)
	}
}

// P5.6
func TestCertificatesAgree(t *testing.T) {
	found := map[int]int{}
	shapes(func(s *source, rows, columns int) {
		p := s.program(rows, columns, -3)
		solution := solved(p)
		accepts(t, p, solution, true)
		found[solution.Status]++
		// What proves the dual of the dual proves the program, with the parts exchanged.
		if other := solved(must(dual.Of(p))); other.Status == api.Optimal {
			other.X, other.Dual = other.Dual, other.X
			other.Value = must(rat.Sub(number("0"), other.Value))
			accepts(t, p, other, true)
			if solution.Status != api.Optimal || !equalNumbers(other.Value, solution.Value) {
				t.Fatal(showProgram(p), solution.Status, show(api.Vec{solution.Value, other.Value}))
			}
		}
		// Nothing proves another status, or another value.
		for range 12 {
			x, y, ray := s.list(columns, 0, 2), s.list(rows, 0, 2), s.list(columns, 0, 2)
			for status, other := range map[int]api.Solution{
				api.Optimal:    {Status: api.Optimal, Value: dot(p.C, x), X: x, Dual: y},
				api.Infeasible: {Status: api.Infeasible, Value: number("0"), Dual: y},
				api.Unbounded:  {Status: api.Unbounded, Value: number("0"), X: x, Ray: ray},
			} {
				if is := must(dual.Accepts(p, other)); is && (status != solution.Status || !equalNumbers(other.Value, solution.Value)) {
					t.Fatal(showProgram(p), status, solution.Status, show(x, y, ray))
				}
			}
		}
		solution.Value = must(rat.Add(solution.Value, number("1/1000")))
		accepts(t, p, solution, false)
	})
	for status := range certified() {
		if found[status] < 30 {
			t.Error(found)
		}
	}
}

// P5.7
func TestMultiplesOfCertificates(t *testing.T) {
	found := map[int]int{}
	shapes(func(s *source, rows, columns int) {
		p := s.program(rows, columns, -3)
		solution := solved(p)
		found[solution.Status]++
		for factor, positive := range map[string]bool{"2": true, "1/7": true, tens(40): true, "1/" + tens(40): true, "0": false, "-1": false, "-1/3": false} {
			other := solution
			switch solution.Status {
			case api.Infeasible:
				other.Dual = scaled(solution.Dual, factor)
			case api.Unbounded:
				other.Ray = scaled(solution.Ray, factor)
			default:
				return
			}
			accepts(t, p, other, positive)
		}
	})
	if found[api.Infeasible] < 30 || found[api.Unbounded] < 30 {
		t.Error(found)
	}
}
