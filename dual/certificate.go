package dual

import (
	"parlour/api"
	"parlour/rat"
)

// kind is what a status asks of a solution. A question may be asked only if the answer to those before it is yes.
type kind interface {
	// complete reports whether the parts that the status uses are there, and nothing else.
	complete() bool
	// feasible reports whether they are what the status says they are.
	feasible() bool
	// telling reports whether the status follows from them.
	telling() bool
}

// proves reports whether a solution proves its status.
func proves(k kind) bool {
	questions := [...]func() bool{k.complete, k.feasible, k.telling}
	return inTurn(true, questions[:]...)
}

// claim is a program with what is said of it.
type claim struct {
	api.Program
	api.Solution
}

type (
	optimal    struct{ claim }
	infeasible struct{ claim }
	unbounded  struct{ claim }
)

// kinds returns what each status asks of a solution.
func kinds(c claim) map[int]kind {
	return map[int]kind{api.Optimal: optimal{c}, api.Infeasible: infeasible{c}, api.Unbounded: unbounded{c}}
}

func (c optimal) complete() bool {
	return fits(c.X, len(c.C)) == api.OK && fits(c.Dual, len(c.B)) == api.OK && len(c.Ray) == 0 && rat.Check(c.Value) == api.OK
}

func (c optimal) feasible() bool {
	return feasible(c.Program, c.X) && feasible(dualOf(c.Program), c.Dual)
}

func (c optimal) telling() bool {
	return equal(dot(c.C, c.X), c.Value) && equal(dot(c.B, c.Dual), c.Value)
}

func (c infeasible) complete() bool {
	return fits(c.Dual, len(c.B)) == api.OK && len(c.X) == 0 && len(c.Ray) == 0 && unused(c.Value)
}

// feasible asks whether the multipliers combine the rows to one without negative elements: as multipliers of a program in which nothing is to be gained.
func (c infeasible) feasible() bool {
	idle := api.Program{A: c.A, B: c.B, C: zeros(len(c.C))}
	return feasible(dualOf(idle), c.Dual)
}

func (c infeasible) telling() bool { return dot(c.B, c.Dual).Neg }

func (c unbounded) complete() bool {
	return fits(c.X, len(c.C)) == api.OK && fits(c.Ray, len(c.C)) == api.OK && len(c.Dual) == 0 && unused(c.Value)
}

// feasible asks whether the ray never leaves a bound behind: as a point of the program in which all bounds are 0.
func (c unbounded) feasible() bool {
	cone := api.Program{A: c.A, B: zeros(len(c.B)), C: c.C}
	return feasible(c.Program, c.X) && feasible(cone, c.Ray)
}

func (c unbounded) telling() bool { return isPositive(dot(c.C, c.Ray)) }

// unused reports whether a value is that of a status that has none.
func unused(value api.Rat) bool { return rat.Check(value) == api.OK && isZero(value) }
