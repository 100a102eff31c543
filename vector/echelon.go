package vector

import (
	"slices"

	"parlour/api"
)

// Echelon returns the reduced echelon form of a matrix, and its pivots.
func Echelon(m api.Mat) (out api.Mat, pivots []int, e api.Errno) {
	if e := Form(m); e != api.OK {
		return nil, nil, e
	}
	t := alone(m)
	if pivots, e = t.reduce(); e != api.OK {
		return nil, nil, e
	}
	return t.rows, pivots, api.OK
}

// Kernel returns the kernel basis of a matrix.
func Kernel(m api.Mat) (api.Mat, api.Errno) {
	if e := Form(m); e != api.OK {
		return nil, e
	}
	t := alone(m)
	pivots, e := t.reduce()
	if e != api.OK {
		return nil, e
	}
	var out api.Mat
	for free := range t.width {
		if slices.Contains(pivots, free) {
			continue
		}
		x := unit(t.width, free)
		for row, column := range pivots {
			x[column] = negated(t.rows[row][free])
		}
		out = append(out, x)
	}
	return out, api.OK
}

// Solve returns the x with m*x = b that is 0 at all columns that are no pivots.
func Solve(m api.Mat, b api.Vec) (api.Vec, api.Errno) {
	if e := first(Form(m), Check(b), fit(len(m), len(b))); e != api.OK {
		return nil, e
	}
	t := beside(m, turned(api.Mat{b}))
	pivots, e := t.reduce()
	if e != api.OK {
		return nil, e
	}
	// The rows without a pivot are 0 on the left.
	for _, rest := range t.right(len(pivots)) {
		if !isZero(rest[0]) {
			return nil, api.ErrNone
		}
	}
	x := unit(t.width, -1)
	for row, column := range pivots {
		x[column] = t.rows[row][t.width]
	}
	return x, api.OK
}

// Inverse returns the inverse of a matrix.
func Inverse(m api.Mat) (api.Mat, api.Errno) {
	if e := first(Form(m), fit(columns(m), len(m))); e != api.OK {
		return nil, e
	}
	t := beside(m, identity(len(m)))
	pivots, e := t.reduce()
	if e != api.OK {
		return nil, e
	}
	if len(pivots) < len(m) {
		return nil, api.ErrSingular
	}
	return t.right(0), api.OK
}

func identity(size int) api.Mat {
	out := make(api.Mat, size)
	for i := range out {
		out[i] = unit(size, i)
	}
	return out
}
