package dual

import (
	"iter"

	"parlour/api"
)

// dualOf returns the dual of a program, in memory of its own.
func dualOf(p api.Program) api.Program {
	rows := make(api.Mat, len(p.C))
	for k := range rows {
		for _, row := range p.A {
			rows[k] = append(rows[k], opposite(row[k]))
		}
	}
	return api.Program{A: rows, B: opposites(p.C), C: opposites(p.B)}
}

// rests yields by how much each row is below its bound.
func rests(p api.Program, x api.Vec) iter.Seq2[int, api.Rat] {
	return func(yield func(i int, rest api.Rat) bool) {
		i := 0
		for row, bound := range zip(p.A, p.B) {
			if !yield(i, difference(bound, dot(row, x))) {
				return
			}
			i++
		}
	}
}

// feasible reports whether a point with as many numbers as there are columns is feasible.
func feasible(p api.Program, x api.Vec) bool {
	for _, number := range x {
		if number.Neg {
			return false
		}
	}
	for _, rest := range rests(p, x) {
		if rest.Neg {
			return false
		}
	}
	return true
}

// complement reports whether the multiplier of each row is 0 unless the row has no rest.
func complement(p api.Program, x, multipliers api.Vec) bool {
	for i, rest := range rests(p, x) {
		if !isZero(rest) && !isZero(multipliers[i]) {
			return false
		}
	}
	return true
}
