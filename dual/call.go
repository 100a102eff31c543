package dual

import (
	"parlour/api"
	"parlour/simplex"
	"parlour/vector"
)

// call is a program with what a function is asked about it.
type call struct {
	program            api.Program
	point, multipliers api.Vec
}

func (c call) programFits() api.Errno { return simplex.Check(c.program) }

func (c call) pointFits() api.Errno { return fits(c.point, len(c.program.C)) }

func (c call) multipliersFit() api.Errno { return fits(c.multipliers, len(c.program.B)) }

func (c call) pointFeasible() api.Errno { return state(feasible(c.program, c.point)) }

func (c call) multipliersFeasible() api.Errno {
	return state(feasible(dualOf(c.program), c.multipliers))
}

// pairFits returns the error of a call that compares a point with multipliers.
func (c call) pairFits() api.Errno {
	checks := [...]func() api.Errno{c.programFits, c.pointFits, c.multipliersFit, c.pointFeasible, c.multipliersFeasible}
	return inTurn(api.OK, checks[:]...)
}

// inTurn asks checks until one of them does not answer what it should, and returns its answer. A check may rely on those before it.
func inTurn[A comparable](good A, checks ...func() A) A {
	for _, check := range checks {
		if answer := check(); answer != good {
			return answer
		}
	}
	return good
}

// fits returns the error of a list that should have this many numbers.
func fits(v api.Vec, size int) api.Errno {
	if e := vector.Check(v); e != api.OK {
		return e
	}
	if len(v) != size {
		return api.ErrType
	}
	return api.OK
}

func state(good bool) api.Errno {
	if !good {
		return api.ErrState
	}
	return api.OK
}
