package simplex

import (
	"iter"

	"parlour/api"
)

// pivots visits the pivots that the rule chooses. It looks for one only when it gets there, so each has to be made on the way.
func (d *dictionary) pivots() iter.Seq2[int, int] {
	return func(yield func(row, column int) bool) {
		for column := d.entering(); column >= 0; column = d.entering() {
			row := d.leaving(column)
			if row < 0 || !yield(row, column) {
				return
			}
		}
	}
}

// follow makes the pivots that the rule chooses, and returns how many there were.
func (d *dictionary) follow() (steps int, e api.Errno) {
	for row, column := range d.pivots() {
		if e := d.pivot(row, column); e != api.OK {
			return 0, e
		}
		steps++
	}
	return steps, api.OK
}

// end returns the column and the status of a dictionary for which the rule chooses no pivot.
func (d *dictionary) end() (column, status int) {
	if column = d.entering(); column >= 0 {
		return column, api.Unbounded
	}
	return -1, api.Optimal
}

// entering returns the column with a positive cost whose variable has the least number, or -1.
func (d *dictionary) entering() int {
	best := -1
	for j, x := range d.Cost {
		if isPositive(x) && (best < 0 || d.Other[j] < d.Other[best]) {
			best = j
		}
	}
	return best
}

// leaving returns the row that limits the variable of a column most, or -1. A row with a negative rest does not count: it has its turn when it is raised.
func (d *dictionary) leaving(column int) int {
	best := -1
	for i, row := range d.Rows {
		if isPositive(row[column]) && !d.Rest[i].Neg && (best < 0 || d.limitsMore(i, best, column)) {
			best = i
		}
	}
	return best
}

// limitsMore reports whether the rule prefers row i to row k.
func (d *dictionary) limitsMore(i, k, column int) bool {
	order := compareQuotients(d.Rest[i], d.Rows[i][column], d.Rest[k], d.Rows[k][column])
	return order < 0 || order == 0 && d.Basic[i] < d.Basic[k]
}
