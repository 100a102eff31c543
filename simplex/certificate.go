package simplex

import (
	"slices"

	"parlour/api"
)

// certificates has, for each status, a function that makes its certificate.
type certificates struct {
	optimal, infeasible, unbounded func() api.Solution
}

// certificates returns functions that read certificates off the last dictionary.
func (s *search) certificates() certificates {
	return certificates{s.optimal, s.infeasible, s.unbounded}
}

// of returns the certificate of a status.
func (c certificates) of(status int) api.Solution {
	switch status {
	case api.Optimal:
		return c.optimal()
	case api.Infeasible:
		return c.infeasible()
	default:
		return c.unbounded()
	}
}

func (s *search) optimal() api.Solution {
	return api.Solution{Status: api.Optimal, Value: s.Value, X: s.point(), Dual: s.multipliers()}
}

// infeasible gives the row that could not be raised the multiplier 1: the objective is the slack of this row.
func (s *search) infeasible() api.Solution {
	dual := s.multipliers()
	dual[slices.IndexFunc(s.Rest, isNegative)] = one()
	return api.Solution{Status: api.Infeasible, Value: zero(), Dual: dual}
}

// unbounded lets the variable of the last column grow by 1, and the basic variables with it.
func (s *search) unbounded() api.Solution {
	column, _ := s.end()
	growth := api.Vec{one()}
	for _, row := range s.Rows {
		growth = append(growth, negated(row[column]))
	}
	ray, _ := s.split(append([]int{s.Other[column]}, s.Basic...), growth)
	return api.Solution{Status: api.Unbounded, Value: zero(), X: s.point(), Ray: ray}
}

// point returns the x of the dictionary, in which all variables that are not basic are 0.
func (s *search) point() api.Vec {
	x, _ := s.split(s.Basic, s.Rest)
	return x
}

// multipliers returns how much the objective loses with each unit of the slack of each row.
func (s *search) multipliers() api.Vec {
	_, dual := s.split(s.Other, each(s.Cost, negated))
	return dual
}

// split returns a number for each variable of the program, and one for each slack: those that are given for some of them, and 0 for all others.
func (s *search) split(variables []int, numbers api.Vec) (own, slacks api.Vec) {
	own, slacks = zeros(len(s.program.C)), zeros(len(s.program.B))
	for i, v := range variables {
		if v < len(own) {
			own[v] = numbers[i]
		} else {
			slacks[v-len(own)] = numbers[i]
		}
	}
	return own, slacks
}
