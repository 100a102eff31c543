package simplex

import (
	"slices"

	"parlour/api"
	"parlour/rat"
)

// dictionary is a dictionary that is changed in place, in memory of its own.
type dictionary struct{ api.Dict }

// begin returns the first dictionary of a program.
func begin(p api.Program) *dictionary {
	d := api.Dict{Rows: p.A, Rest: p.B, Cost: p.C, Value: zero()}
	for j := range p.C {
		d.Other = append(d.Other, j)
	}
	for i := range p.B {
		d.Basic = append(d.Basic, len(p.C)+i)
	}
	return copied(d)
}

// copied returns a dictionary like another one.
func copied(d api.Dict) *dictionary {
	return &dictionary{api.Dict{
		Basic: slices.Clone(d.Basic),
		Other: slices.Clone(d.Other),
		Rows:  each(d.Rows, clones),
		Rest:  clones(d.Rest),
		Cost:  clones(d.Cost),
		Value: clone(d.Value),
	}}
}

// pivot solves the equation of a row for the variable of a column, and puts it into all other equations and the objective. With an error, the dictionary is of no use any more.
func (d *dictionary) pivot(row, column int) api.Errno {
	if e := d.divide(row, column); e != api.OK {
		return e
	}
	for i, line := range d.Rows {
		if i == row {
			continue
		}
		if e := d.put(row, column, line, &d.Rest[i]); e != api.OK {
			return e
		}
	}
	// With all signs turned, the objective is an equation like the others.
	rest := negated(d.Value)
	if e := d.put(row, column, d.Cost, &rest); e != api.OK {
		return e
	}
	d.Value = negated(rest)
	d.Basic[row], d.Other[column] = d.Other[column], d.Basic[row]
	return api.OK
}

// divide solves the equation of a row for the variable of a column; the variable of the row gets the place in the column.
func (d *dictionary) divide(row, column int) api.Errno {
	line := d.Rows[row]
	divisor := line[column]
	line[column] = one()
	var e api.Errno
	for j, x := range line {
		if line[j], e = rat.Div(x, divisor); e != api.OK {
			return e
		}
	}
	d.Rest[row], e = rat.Div(d.Rest[row], divisor)
	return e
}

// put puts the solved equation of a row into another one, which has a line and a rest.
func (d *dictionary) put(row, column int, line api.Vec, rest *api.Rat) api.Errno {
	factor := line[column]
	line[column] = zero()
	return d.subtract(row, factor, line, rest)
}

// subtract takes the equation of a row, times a factor, from another one, which has a line and a rest.
func (d *dictionary) subtract(row int, factor api.Rat, line api.Vec, rest *api.Rat) api.Errno {
	var e api.Errno
	for j, x := range d.Rows[row] {
		if line[j], e = minusProduct(line[j], factor, x); e != api.OK {
			return e
		}
	}
	*rest, e = minusProduct(*rest, factor, d.Rest[row])
	return e
}

// minusProduct returns so - x*y.
func minusProduct(so, x, y api.Rat) (api.Rat, api.Errno) {
	if isZero(x) || isZero(y) {
		return so, api.OK
	}
	product, e := rat.Mul(x, y)
	if e != api.OK {
		return api.Rat{}, e
	}
	return rat.Sub(so, product)
}
