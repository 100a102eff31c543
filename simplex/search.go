package simplex

import "parlour/api"

// search is the way from the first dictionary of a program to one that proves what is known of it.
type search struct {
	*dictionary
	program api.Program
}

// run makes pivots until the dictionary proves a status, and returns it.
func (s *search) run() (int, api.Errno) {
	for row := range s.Rest {
		if e := s.raise(row); e != api.OK {
			return 0, e
		}
		if isNegative(s.Rest[row]) {
			return api.Infeasible, api.OK
		}
	}
	if e := s.aim(); e != api.OK {
		return 0, e
	}
	if _, e := s.follow(); e != api.OK {
		return 0, e
	}
	_, status := s.end()
	return status, api.OK
}

// raise makes the basic variable of a row the objective until the row's rest is not negative any more. If it stays negative, there is no feasible x. On the way no other rest becomes negative.
func (s *search) raise(row int) api.Errno {
	if !isNegative(s.Rest[row]) {
		return api.OK
	}
	s.Cost, s.Value = each(s.Rows[row], negated), s.Rest[row]
	for i, column := range s.pivots() {
		if e := s.pivot(i, column); e != api.OK || !isNegative(s.Rest[row]) {
			return e
		}
	}
	if column, status := s.end(); status == api.Unbounded {
		// No other row limits the variable of the column, so this row can be solved for it.
		return s.pivot(row, column)
	}
	return api.OK
}

// aim makes the objective of the program that of the dictionary.
func (s *search) aim() api.Errno {
	goal := s.program.C
	for j, v := range s.Other {
		if s.Cost[j] = zero(); v < len(goal) {
			s.Cost[j] = clone(goal[v])
		}
	}
	// With all signs turned, the objective is an equation.
	rest := zero()
	for i, v := range s.Basic {
		if v >= len(goal) {
			continue
		}
		if e := s.subtract(i, goal[v], s.Cost, &rest); e != api.OK {
			return e
		}
	}
	s.Value = negated(rest)
	return api.OK
}
