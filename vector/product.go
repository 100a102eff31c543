package vector

import (
	"parlour/api"
	"parlour/rat"
)

// Dot returns the sum of the products of the elements of two vectors.
func Dot(a, b api.Vec) (api.Rat, api.Errno) {
	if e := first(Check(a), Check(b), fit(len(a), len(b))); e != api.OK {
		return api.Rat{}, e
	}
	return dot(a, b)
}

// Add returns the sum of two vectors.
func Add(a, b api.Vec) (api.Vec, api.Errno) {
	if e := first(Check(a), Check(b), fit(len(a), len(b))); e != api.OK {
		return nil, e
	}
	return pairwise(a, b, rat.Add)
}

// Scale returns a vector times a number.
func Scale(v api.Vec, x api.Rat) (api.Vec, api.Errno) {
	if e := first(Check(v), rat.Check(x)); e != api.OK {
		return nil, e
	}
	return each(v, func(y api.Rat) (api.Rat, api.Errno) { return rat.Mul(y, x) })
}

// Apply returns a matrix times a vector.
func Apply(m api.Mat, v api.Vec) (api.Vec, api.Errno) {
	if e := first(Form(m), Check(v), follows(m, len(v))); e != api.OK {
		return nil, e
	}
	return each(m, func(row api.Vec) (api.Rat, api.Errno) { return dot(row, v) })
}

// Mul returns the product of two matrices.
func Mul(a, b api.Mat) (api.Mat, api.Errno) {
	if e := first(Form(a), Form(b), follows(a, len(b))); e != api.OK {
		return nil, e
	}
	return each(a, func(row api.Vec) (api.Vec, api.Errno) {
		return fold(row, b, unit(columns(b), -1), plusMultiple)
	})
}

// Turn returns the transpose of a matrix.
func Turn(m api.Mat) (api.Mat, api.Errno) {
	if e := Form(m); e != api.OK {
		return nil, e
	}
	return turned(m), api.OK
}

// follows returns ErrType if a matrix can't be multiplied by something with this many rows. One without rows can be multiplied by anything.
func follows(m api.Mat, rows int) api.Errno {
	if len(m) == 0 {
		return api.OK
	}
	return fit(columns(m), rows)
}

// fold joins the pairs of elements of two lists of the same length into one result, up to the first error.
func fold[A, B, R any](a []A, b []B, begin R, join func(so R, x A, y B) (R, api.Errno)) (R, api.Errno) {
	so := begin
	for i, x := range a {
		next, e := join(so, x, b[i])
		if e != api.OK {
			var none R
			return none, e
		}
		so = next
	}
	return so, api.OK
}

// each returns what a function makes of the elements of a list, up to the first error.
func each[A, R any](list []A, f func(x A) (R, api.Errno)) ([]R, api.Errno) {
	out := make([]R, 0, len(list))
	for _, x := range list {
		y, e := f(x)
		if e != api.OK {
			return nil, e
		}
		out = append(out, y)
	}
	return out, api.OK
}

func dot(a, b api.Vec) (api.Rat, api.Errno) { return fold(a, b, zero(), plusProduct) }

// plusProduct returns so + x*y.
func plusProduct(so, x, y api.Rat) (api.Rat, api.Errno) {
	if isZero(x) || isZero(y) {
		return so, api.OK
	}
	product, e := rat.Mul(x, y)
	if e != api.OK {
		return api.Rat{}, e
	}
	return rat.Add(so, product)
}

// plusMultiple returns so + x*v.
func plusMultiple(so api.Vec, x api.Rat, v api.Vec) (api.Vec, api.Errno) {
	return pairwise(so, v, func(s, y api.Rat) (api.Rat, api.Errno) { return plusProduct(s, x, y) })
}

// pairwise returns what a function makes of the pairs of elements of two vectors.
func pairwise(a, b api.Vec, f func(x, y api.Rat) (api.Rat, api.Errno)) (api.Vec, api.Errno) {
	return fold(a, b, make(api.Vec, 0, len(a)), func(so api.Vec, x, y api.Rat) (api.Vec, api.Errno) {
		z, e := f(x, y)
		return append(so, z), e
	})
}
