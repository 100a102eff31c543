package vector

import (
	"iter"
	"slices"

	"parlour/api"
	"parlour/rat"
)

// table is a matrix whose rows are changed in place. Only its first columns, width of them, can have pivots; what stands behind them changes with them, and may make rows longer than those of a valid matrix.
type table struct {
	rows  api.Mat
	width int
}

// beside returns a table of the rows of two matrices side by side, in memory of its own. Its pivots are those of the left one.
func beside(left, right api.Mat) table {
	rows := make(api.Mat, len(left))
	for i, row := range left {
		for _, x := range slices.Concat(row, right[i]) {
			rows[i] = append(rows[i], copied(x))
		}
	}
	return table{rows, columns(left)}
}

// alone returns a table of the rows of one matrix.
func alone(m api.Mat) table { return beside(m, make(api.Mat, len(m))) }

// right returns what stands behind the width of the rows, from one of them on.
func (t table) right(from int) api.Mat {
	var out api.Mat
	for _, row := range t.rows[from:] {
		out = append(out, row[t.width:])
	}
	return out
}

// operation names a change of a row with the help of another one.
type operation int

const (
	exchange operation = iota
	divide
	subtract
)

// operations returns the methods that make the changes. Each gets a row, the row that helps, and the column of the pivot.
func (t table) operations() map[operation]func(row, helper, column int) api.Errno {
	return map[operation]func(row, helper, column int) api.Errno{
		exchange: t.exchange,
		divide:   t.divide,
		subtract: t.subtract,
	}
}

// exchange lets two rows change their places.
func (t table) exchange(row, helper, column int) api.Errno {
	t.rows[row], t.rows[helper] = t.rows[helper], t.rows[row]
	return api.OK
}

// divide divides a row by the helper's element in the column.
func (t table) divide(row, helper, column int) api.Errno {
	pivot := t.rows[helper][column]
	changed, e := each(t.rows[row], func(x api.Rat) (api.Rat, api.Errno) { return rat.Div(x, pivot) })
	t.rows[row] = changed
	return e
}

// subtract takes as much of the helper, which has a 1 in the column, from a row that it has a 0 there.
func (t table) subtract(row, helper, column int) api.Errno {
	factor := t.rows[row][column]
	if isZero(factor) {
		return api.OK
	}
	changed, e := plusMultiple(t.rows[row], negated(factor), t.rows[helper])
	t.rows[row] = changed
	return e
}

// step is one change of a row.
type step struct {
	kind        operation
	row, helper int
}

// steps returns the changes that make an element the pivot of the row top, if it stands in the row found now.
func (t table) steps(top, found int) []step {
	out := []step{{exchange, top, found}, {divide, top, top}}
	for row := range t.rows {
		if row != top {
			out = append(out, step{subtract, row, top})
		}
	}
	return out
}

// pivots visits the pivots from left to right: the first row that has an element other than 0 in a column, of those that have no pivot yet, and the column. It looks at a column only when it gets there, so the rows have to be changed on the way.
func (t table) pivots() iter.Seq2[int, int] {
	return func(yield func(found, column int) bool) {
		top := 0
		for column := range t.width {
			below := slices.IndexFunc(t.rows[top:], func(row api.Vec) bool { return !isZero(row[column]) })
			if below < 0 {
				continue
			}
			if !yield(top+below, column) {
				return
			}
			top++
		}
	}
}

// reduce brings the rows into their reduced echelon form, and returns the columns of the pivots.
func (t table) reduce() ([]int, api.Errno) {
	change := t.operations()
	var out []int
	for found, column := range t.pivots() {
		for _, s := range t.steps(len(out), found) {
			if e := change[s.kind](s.row, s.helper, column); e != api.OK {
				return nil, e
			}
		}
		out = append(out, column)
	}
	return out, api.OK
}
