package vector_test

import (
	"testing"

	"parlour/api"
	"parlour/rat"
	"parlour/vector"
)

// P3.5
func TestDotIsSymmetricAndLinear(t *testing.T) {
	s := source(13)
	for range 300 {
		size := s.below(41)
		a, b, c := s.vector(size), s.vector(size), s.vector(size)
		x := must(rat.Of(s.below(41)-20, 1+s.below(9)))
		ab, ba := must(vector.Dot(a, b)), must(vector.Dot(b, a))
		if !equalNumbers(ab, ba) {
			t.Fatal(show(api.Mat{a, b}), show(api.Mat{{ab, ba}}))
		}
		left := must(vector.Dot(must(vector.Add(must(vector.Scale(a, x)), c)), b))
		right := must(rat.Add(must(rat.Mul(x, ab)), must(vector.Dot(c, b))))
		if !equalNumbers(left, right) {
			t.Fatal(show(api.Mat{a, b, c, {x}}), show(api.Mat{{left, right}}))
		}
	}
}

// P3.5
func TestTransposeOfProduct(t *testing.T) {
	shapes(func(s *source, rows, columns int) {
		inner := 1 + s.below(6)
		a, b := s.matrix(rows, inner), s.matrix(inner, columns)
		if rows == 0 || columns == 0 {
			return
		}
		left := must(vector.Turn(must(vector.Mul(a, b))))
		right := must(vector.Mul(must(vector.Turn(b)), must(vector.Turn(a))))
		if !equal(left, right) || len(left) != columns {
			t.Fatal(show(a), show(b), show(left), show(right))
		}
		if again := must(vector.Turn(must(vector.Turn(a)))); !equal(again, a) {
			t.Fatal(show(a), show(again))
		}
	})
}

// P3.6
func TestKernelAndSolutions(t *testing.T) {
	shapes(func(s *source, rows, columns int) {
		if rows == 0 {
			return
		}
		m := s.matrix(rows, columns)
		form, pivots, e := vector.Echelon(m)
		kernel, e2 := vector.Kernel(m)
		if e != api.OK || e2 != api.OK || len(pivots)+len(kernel) != columns {
			t.Fatal(show(m), pivots, show(kernel), e, e2)
		}
		if again := must(vector.Kernel(form)); !equal(again, kernel) {
			t.Fatal(show(m), show(kernel), show(again))
		}
		point := s.vector(columns)
		for _, x := range kernel {
			if !equalLists(must(vector.Apply(m, x)), zeros(rows)) || !equalLists(must(vector.Apply(form, x)), zeros(rows)) {
				t.Fatal(show(m), show(kernel))
			}
			point = must(vector.Add(point, x))
		}
		// The same x solves both systems, whichever point the right sides come from.
		x := must(vector.Solve(m, must(vector.Apply(m, point))))
		y := must(vector.Solve(form, must(vector.Apply(form, point))))
		if !equalLists(x, y) {
			t.Fatal(show(m), show(api.Mat{x, y}))
		}
		if again, places, e := vector.Echelon(form); !equal(again, form) || len(places) != len(pivots) {
			t.Fatal(show(form), show(again), e)
		}
	})
}

// P3.7
func TestInverseFromBothSides(t *testing.T) {
	s := source(17)
	inverses := 0
	for i := range 400 {
		size := i % 9
		m := s.matrix(size, size)
		x, e := vector.Inverse(m)
		_, pivots, _ := vector.Echelon(m)
		if (e == api.OK) != (len(pivots) == size) || e != api.OK && (e != api.ErrSingular || len(x) > 0) {
			t.Fatal(show(m), show(x), e)
		}
		if e != api.OK {
			continue
		}
		inverses++
		if !equal(must(vector.Mul(m, x)), identity(size)) || !equal(must(vector.Mul(x, m)), identity(size)) {
			t.Fatal(show(m), show(x))
		}
		if again := must(vector.Inverse(x)); !equal(again, m) {
			t.Fatal(show(m), show(again))
		}
	}
	if inverses < 100 || inverses > 390 {
		t.Error(inverses)
	}
}

// witness returns a combination of rows that is 0 whereas the same combination of b is not, and whether there is one.
func witness(m api.Mat, b api.Vec) (api.Vec, bool) {
	basis := must(vector.Kernel(must(vector.Turn(m))))
	if len(m[0]) == 0 {
		basis = identity(len(m))
	}
	for _, y := range basis {
		if x := must(vector.Dot(y, b)); !equalNumbers(x, number("0")) {
			return y, true
		}
	}
	return nil, false
}

// P3.8
func TestNoSolution(t *testing.T) {
	none := 0
	shapes(func(s *source, rows, columns int) {
		if rows == 0 {
			return
		}
		m, b := s.matrix(rows, columns), s.vector(rows)
		x, e := vector.Solve(m, b)
		y, proven := witness(m, b)
		if proven != (e == api.ErrNone) || e != api.OK && len(x) > 0 {
			t.Fatal(show(m), show(api.Mat{b, x, y}), e)
		}
		if e == api.OK && !equalLists(must(vector.Apply(m, x)), b) {
			t.Fatal(show(m), show(api.Mat{b, x}))
		}
		if e == api.ErrNone {
			none++
			for j := range columns {
				if sum := must(vector.Dot(y, must(vector.Turn(m))[j])); !equalNumbers(sum, number("0")) {
					t.Fatal(show(m), show(api.Mat{b, y}))
				}
			}
		}
	})
	if none < 100 {
		t.Error(none)
	}
}
