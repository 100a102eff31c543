package vector_test

import (
	"slices"
	"testing"

	"parlour/api"
	"parlour/vector"
)

// P3.3
func TestApply(t *testing.T) {
	for _, c := range []struct {
		m       api.Mat
		v, want string
	}{
		{mat("1 2", "3 4"), "1 1", "3 7"},
		{mat("1 2", "3 4"), "1/2 -1/4", "0 1/2"},
		{mat("1 2 3"), "1 1 1", "6"},
		{mat("1", "2", "3"), "1/2", "1/2 1 3/2"},
		{mat("", "", ""), "", "0 0 0"},
		{nil, "", ""},
		{nil, "1", ""},
		{nil, "1 2 3/4 5", ""},
	} {
		x, e := vector.Apply(c.m, vec(c.v))
		is(t, "Apply", api.Mat{x}, e, mat(c.want))
	}
	for _, c := range []struct {
		m api.Mat
		v string
	}{{mat("1 2", "3 4"), ""}, {mat("1 2", "3 4"), "1"}, {mat("1 2", "3 4"), "1 2 3"}, {mat("1 2 3"), "1"}, {mat(""), "1"}, {mat("1", "2"), "1 2"}, {mat("1"), ""}} {
		x, e := asMatrix(vector.Apply(c.m, vec(c.v)))
		fails(t, "Apply", x, e, api.ErrType)
	}
}

// P3.3
func TestMul(t *testing.T) {
	for _, c := range []struct{ a, b, want api.Mat }{
		{mat("1 2", "3 4"), mat("1 2", "2 4"), mat("5 10", "11 22")},
		{mat("1 2", "2 4"), mat("1 2", "3 4"), mat("7 10", "14 20")},
		{mat("1 2 3"), mat("4", "5", "6"), mat("32")},
		{mat("4", "5", "6"), mat("1 2 3"), mat("4 8 12", "5 10 15", "6 12 18")},
		{mat("1/2 1/3"), mat("1 2 3", "6 0 -3/2"), mat("5/2 1 1")},
		{nil, nil, nil},
		{nil, mat("1 2"), nil},
		{nil, mat("", ""), nil},
		{mat("", ""), nil, mat("", "")},
		{mat("1 2", "3 4", "5 6"), mat("", ""), mat("", "", "")},
	} {
		x, e := vector.Mul(c.a, c.b)
		is(t, "Mul", x, e, c.want)
	}
	for _, c := range [][2]api.Mat{
		{mat("1 2"), mat("1 2")},
		{mat("1 2"), nil},
		{mat("1"), nil},
		{mat(""), mat("1")},
		{mat(""), mat("")},
		{mat("1 2", "3 4"), mat("1 2", "3 4", "5 6")},
		{mat("1 2 3"), mat("1 2", "3 4")},
	} {
		x, e := vector.Mul(c[0], c[1])
		fails(t, "Mul", x, e, api.ErrType)
	}
}

// P3.3
func TestTurn(t *testing.T) {
	for _, c := range []struct{ m, want api.Mat }{
		{mat("1 2", "3 4"), mat("1 3", "2 4")},
		{mat("1 -2/3 0"), mat("1", "-2/3", "0")},
		{mat("1", "-2/3", "0"), mat("1 -2/3 0")},
		{mat("1 2 3", "4 5 6"), mat("1 4", "2 5", "3 6")},
		{mat(nines()+" 1/"+nines(), "1 2"), mat(nines()+" 1", "1/"+nines()+" 2")},
		{nil, nil},
		{mat(""), nil},
		{mat("", "", ""), nil},
		{slices.Repeat(mat("7"), 40), api.Mat{slices.Repeat(vec("7"), 40)}},
	} {
		x, e := vector.Turn(c.m)
		is(t, "Turn", x, e, c.want)
	}
}

// intProduct returns the product of lists of ints, of which the second one has so many columns.
func intProduct(a, b [][]int, columns int) [][]int {
	out := make([][]int, len(a))
	for i, row := range a {
		out[i] = make([]int, columns)
		for k, x := range row {
			for j, y := range b[k] {
				out[i][j] += x * y
			}
		}
	}
	return out
}

// P3.3: products of ints, also of the greatest size.
func TestProductsOfInts(t *testing.T) {
	check := func(s *source, rows, inner, columns int) {
		a, b := s.ints(rows, inner), s.ints(inner, columns)
		x, e := vector.Mul(ofInts(a), ofInts(b))
		is(t, "Mul", x, e, ofInts(intProduct(a, b, columns)))
		v := s.ints(inner, 1)
		y, e := vector.Apply(ofInts(a), slices.Concat(ofInts(v)...))
		is(t, "Apply", api.Mat{y}, e, api.Mat{slices.Concat(ofInts(intProduct(a, v, 1))...)})
		turned, e := vector.Turn(ofInts(a))
		if rows == 0 {
			is(t, "Turn", turned, e, nil)
			return
		}
		for i, row := range turned {
			for j, z := range row {
				if e != api.OK || len(turned) != inner || len(row) != rows || !equalNumbers(z, ofInts(a)[j][i]) {
					t.Error("Turn", i, j, e)
				}
			}
		}
	}
	shapes(func(s *source, rows, columns int) { check(s, rows, 1+s.below(6), columns) })
	s := source(9)
	check(&s, 40, 40, 40)
	check(&s, 40, 1, 40)
	check(&s, 1, 40, 1)
}
