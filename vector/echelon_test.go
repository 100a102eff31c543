package vector_test

import (
	"slices"
	"testing"

	"parlour/api"
	"parlour/rat"
	"parlour/vector"
)

// P3.4
func TestEchelon(t *testing.T) {
	for i, c := range []struct {
		m, want api.Mat
		pivots  []int
	}{
		{nil, nil, nil},
		{mat("", ""), mat("", ""), nil},
		{mat("0"), mat("0"), nil},
		{mat("-3/2"), mat("1"), []int{0}},
		{mat("0 0", "0 0"), mat("0 0", "0 0"), nil},
		{mat("1 2", "2 4"), mat("1 2", "0 0"), []int{0}},
		{mat("1 2", "3 4"), mat("1 0", "0 1"), []int{0, 1}},
		{mat("0 2 4", "0 0 0"), mat("0 1 2", "0 0 0"), []int{1}},
		{mat("0 0 0", "0 2 4"), mat("0 1 2", "0 0 0"), []int{1}},
		{mat("0 1", "1 0"), mat("1 0", "0 1"), []int{0, 1}},
		{mat("0 0 3", "0 2 1", "0 4 5"), mat("0 1 0", "0 0 1", "0 0 0"), []int{1, 2}},
		{mat("1 2 3 4", "2 4 7 9", "3 6 10 13"), mat("1 2 0 1", "0 0 1 1", "0 0 0 0"), []int{0, 2}},
		{mat("1/2 1/3", "1/4 1/5", "1/6 1/7"), mat("1 0", "0 1", "0 0"), []int{0, 1}},
		{mat("2 1 -1 8", "-3 -1 2 -11", "-2 1 2 -3"), mat("1 0 0 2", "0 1 0 3", "0 0 1 -1"), []int{0, 1, 2}},
		{mat("2 3 5 7"), mat("1 3/2 5/2 7/2"), []int{0}},
		{mat("2", "3", "5"), mat("1", "0", "0"), []int{0}},
		{mat(nines()+" "+less(), "0 0"), mat("1 "+less()+"/"+nines(), "0 0"), []int{0}},
		{mat(tens(4608) + " 1/" + tens(4607)), mat("1 1/" + tens(9215)), []int{0}},
	} {
		x, pivots, e := vector.Echelon(c.m)
		is(t, "Echelon", x, e, c.want)
		if !slices.Equal(pivots, c.pivots) {
			t.Error(i, pivots, c.pivots)
		}
	}
}

// P3.4
func TestKernel(t *testing.T) {
	for _, c := range []struct{ m, want api.Mat }{
		{nil, nil},
		{mat("", ""), nil},
		{mat("1 2", "3 4"), nil},
		{mat("0"), mat("1")},
		{mat("5"), nil},
		{mat("1 2", "2 4"), mat("-2 1")},
		{mat("0 0 0"), mat("1 0 0", "0 1 0", "0 0 1")},
		{mat("2 3 5"), mat("-3/2 1 0", "-5/2 0 1")},
		{mat("0 2 3"), mat("1 0 0", "0 -3/2 1")},
		{mat("1 2 3 4", "2 4 7 9", "3 6 10 13"), mat("-2 1 0 0", "-1 0 -1 1")},
		{mat("0 1 0 -2/3 0", "0 0 1 5 0"), mat("1 0 0 0 0", "0 2/3 -5 1 0", "0 0 0 0 1")},
		{mat("1 " + nines()), mat("-" + nines() + " 1")},
	} {
		x, e := vector.Kernel(c.m)
		is(t, "Kernel", x, e, c.want)
	}
	wide, e := vector.Kernel(api.Mat{slices.Repeat(vec("1"), 40)})
	if e != api.OK || len(wide) != 39 {
		t.Error(len(wide), e)
	}
}

// P3.4
func TestSolve(t *testing.T) {
	for _, c := range []struct {
		m       api.Mat
		b, want string
	}{
		{mat("1 2", "3 4"), "5 6", "-4 9/2"},
		{mat("1 2", "3 4"), "0 0", "0 0"},
		{mat("1 2", "2 4"), "1 2", "1 0"},
		{mat("1 2", "2 4"), "0 0", "0 0"},
		{mat("0 2 4", "0 0 0"), "3 0", "0 3/2 0"},
		{mat("0 0 0", "0 2 4"), "0 3", "0 3/2 0"},
		{mat("0 1", "1 0"), "7 8", "8 7"},
		{mat("2 3 5"), "7", "7/2 0 0"},
		{mat("0 0 0"), "0", "0 0 0"},
		{mat("1", "2", "3"), "1/2 1 3/2", "1/2"},
		{mat("1 2 3 4", "2 4 7 9", "3 6 10 13"), "1 3 4", "-2 0 1 0"},
		{mat("2 1 -1", "-3 -1 2", "-2 1 2"), "8 -11 -3", "2 3 -1"},
		{mat("", ""), "0 0", ""},
		{nil, "", ""},
		{mat("1/" + tens(4607)), tens(4608), tens(9215)},
	} {
		x, e := vector.Solve(c.m, vec(c.b))
		is(t, "Solve", api.Mat{x}, e, mat(c.want))
	}
	for _, c := range []struct {
		m    api.Mat
		b    string
		want api.Errno
	}{
		{mat("1 2", "2 4"), "1 1", api.ErrNone},
		{mat("1 2", "2 4"), "0 1/1000000000000", api.ErrNone},
		{mat("1 2", "2 4", "3 6"), "1 2 4", api.ErrNone},
		{mat("1", "2", "3"), "1 2 4", api.ErrNone},
		{mat("0 0", "1 2"), "1 0", api.ErrNone},
		{mat("0"), "-1", api.ErrNone},
		{mat(""), "1", api.ErrNone},
		{mat("", ""), "0 -1", api.ErrNone},
		{mat("1 2 3", "4 5 6", "7 8 9"), "1 2 4", api.ErrNone},
		{mat("1 2", "3 4"), "", api.ErrType},
		{mat("1 2", "3 4"), "1", api.ErrType},
		{mat("1 2", "3 4"), "1 2 3", api.ErrType},
		{mat("1 2 3", "4 5 6"), "1 2 3", api.ErrType},
		{mat("0"), "1 1", api.ErrType},
		{mat("", ""), "", api.ErrType},
		{nil, "1", api.ErrType},
		{nil, "0 0", api.ErrType},
	} {
		x, e := asMatrix(vector.Solve(c.m, vec(c.b)))
		fails(t, "Solve", x, e, c.want)
	}
}

// P3.4
func TestInverse(t *testing.T) {
	for _, c := range []struct{ m, want api.Mat }{
		{nil, nil},
		{api.Mat{}, nil},
		{mat("-2/3"), mat("-3/2")},
		{mat("1 2", "3 4"), mat("-2 1", "3/2 -1/2")},
		{mat("0 1", "1 0"), mat("0 1", "1 0")},
		{mat("0 1 0", "0 0 1", "1 0 0"), mat("0 0 1", "1 0 0", "0 1 0")},
		{mat("0 2", "3 5"), mat("-5/6 1/3", "1/2 0")},
		{mat("1 1/2 1/3", "1/2 1/3 1/4", "1/3 1/4 1/5"), mat("9 -36 30", "-36 192 -180", "30 -180 180")},
		{mat(nines()+" 0", "0 1/"+nines()), mat("1/"+nines()+" 0", "0 "+nines())},
	} {
		x, e := vector.Inverse(c.m)
		is(t, "Inverse", x, e, c.want)
	}
	for _, m := range []api.Mat{mat("0"), mat("1 2", "2 4"), mat("0 0", "0 0"), mat("0 1", "0 2"), mat("1 2 3", "4 5 6", "7 8 9"), mat("1 1/2 0", "2 1 0", "0 0 1")} {
		x, e := vector.Inverse(m)
		fails(t, "Inverse", x, e, api.ErrSingular)
	}
	for _, m := range []api.Mat{mat("1 2"), mat("1", "2"), mat(""), mat("", ""), mat("1 2 3", "4 5 6"), mat("1 2", "2 4", "3 6"), mat("0 0")} {
		x, e := vector.Inverse(m)
		fails(t, "Inverse", x, e, api.ErrType)
	}
}

// least returns the matrix whose element i, j is the lesser one of i+1 and j+1. Its inverse has -1 beside the diagonal, and in it 2, but 1 at last.
func least(size int) (m, inverse api.Mat) {
	a, b := make([][]int, size), make([][]int, size)
	for i := range a {
		a[i], b[i] = make([]int, size), make([]int, size)
		for j := range a[i] {
			if a[i][j] = min(i, j) + 1; max(i-j, j-i) == 1 {
				b[i][j] = -1
			}
		}
		if b[i][i] = 2; i == size-1 {
			b[i][i] = 1
		}
	}
	return ofInts(a), ofInts(b)
}

// P3.4: also matrices of the greatest size.
func TestGreatestSize(t *testing.T) {
	for size := 1; size <= 40; size += 13 {
		m, want := least(size)
		x, e := vector.Inverse(m)
		is(t, "Inverse", x, e, want)
		x, e = vector.Inverse(want)
		is(t, "Inverse", x, e, m)
		// The last column of the inverse solves the last column of the identity.
		v, e := vector.Solve(m, identity(size)[size-1])
		is(t, "Solve", api.Mat{v}, e, want[size-1:])
		out, pivots, e := vector.Echelon(m)
		is(t, "Echelon", out, e, identity(size))
		if len(pivots) != size {
			t.Error(pivots)
		}
		out, e = vector.Kernel(m)
		is(t, "Kernel", out, e, nil)
	}
	same := slices.Repeat(api.Mat{slices.Repeat(vec("2"), 40)}, 40)
	v, e := vector.Solve(same, slices.Repeat(vec("1"), 40))
	is(t, "Solve", api.Mat{v}, e, api.Mat{append(vec("1/2"), zeros(39)...)})
	x, e := asMatrix(vector.Solve(same, append(vec("1"), zeros(39)...)))
	fails(t, "Solve", x, e, api.ErrNone)
	x, e = vector.Inverse(same)
	fails(t, "Inverse", x, e, api.ErrSingular)
	x, e = vector.Kernel(same)
	if e != api.OK || len(x) != 39 {
		t.Error(len(x), e)
	}
}

// prime is a modulus that divides no number of these tests but 0.
const prime = 2147483647

// power returns a power modulo the prime.
func power(a, exponent int) int {
	out := 1
	for ; exponent > 0; exponent /= 2 {
		if exponent%2 == 1 {
			out = out * a % prime
		}
		a = a * a % prime
	}
	return out
}

// class returns what a number is modulo the prime.
func class(x api.Rat) int {
	rest := func(n api.Nat) int {
		out := 0
		for i := len(n) - 1; i >= 0; i-- {
			out = (out*api.Limb + int(n[i])) % prime
		}
		return out
	}
	out := rest(x.Num) * power(rest(x.Den), prime-2) % prime
	if x.Neg {
		out = (prime - out) % prime
	}
	return out
}

func classes(m api.Mat) [][]int {
	out := make([][]int, len(m))
	for i, row := range m {
		out[i] = make([]int, len(row))
		for j, x := range row {
			out[i][j] = class(x)
		}
	}
	return out
}

// reduced returns the reduced echelon form modulo the prime, found without the package, and its pivots.
func reduced(rows [][]int) (out [][]int, pivots []int) {
	for column := 0; len(rows) > 0 && column < len(rows[0]); column++ {
		top := len(pivots)
		found := slices.IndexFunc(rows[top:], func(row []int) bool { return row[column] != 0 })
		if found < 0 {
			continue
		}
		rows[top], rows[top+found] = rows[top+found], rows[top]
		factor := power(rows[top][column], prime-2)
		for j := range rows[top] {
			rows[top][j] = rows[top][j] * factor % prime
		}
		for i := range rows {
			factor := prime - rows[i][column]
			for j := range rows[i] {
				if i != top {
					rows[i][j] = (rows[i][j] + factor*rows[top][j]) % prime
				}
			}
		}
		pivots = append(pivots, column)
	}
	return rows, pivots
}

// P3.4
func TestClasses(t *testing.T) {
	shapes(func(s *source, rows, columns int) {
		m := s.matrix(rows, columns)
		want, wantPivots := reduced(classes(m))
		x, pivots, e := vector.Echelon(m)
		if e != api.OK || vector.Form(x) != api.OK || !slices.Equal(pivots, wantPivots) || !slices.EqualFunc(classes(x), want, slices.Equal[[]int]) {
			t.Fatal(show(m), show(x), pivots, wantPivots, e)
		}
	})
}

// P3.4: the form is as the document says, and each row of the matrix is the sum of rows of the form that its elements at the pivots tell.
func TestShape(t *testing.T) {
	shapes(func(s *source, rows, columns int) {
		m := s.matrix(rows, columns)
		x, pivots, e := vector.Echelon(m)
		if e != api.OK || len(x) != rows || !slices.IsSorted(pivots) || len(slices.Compact(slices.Clone(pivots))) != len(pivots) {
			t.Fatal(show(m), show(x), pivots, e)
		}
		for i, row := range x {
			head := slices.IndexFunc(row, func(y api.Rat) bool { return len(y.Num) > 0 })
			if i >= len(pivots) {
				if head >= 0 {
					t.Fatal(show(m), show(x), pivots)
				}
				continue
			}
			for k := range x {
				if head != pivots[i] || !equalNumbers(x[k][head], identity(rows)[i][k]) {
					t.Fatal(show(m), show(x), pivots)
				}
			}
		}
		for _, row := range m {
			sum := zeros(columns)
			for i, column := range pivots {
				sum = must(vector.Add(sum, must(vector.Scale(x[i], row[column]))))
			}
			if !equalLists(sum, row) {
				t.Fatal(show(m), show(x), pivots)
			}
		}
	})
}

// P3.4: a row of the kernel basis belongs to each column that is no pivot, and solutions are 0 at these columns.
func TestColumnsWithoutPivot(t *testing.T) {
	shapes(func(s *source, rows, columns int) {
		m, point := s.matrix(rows, columns), s.vector(columns)
		_, pivots, _ := vector.Echelon(m)
		var free []int
		for j := range columns {
			if !slices.Contains(pivots, j) && rows > 0 {
				free = append(free, j)
			}
		}
		kernel, e := vector.Kernel(m)
		if e != api.OK || len(kernel) != len(free) {
			t.Fatal(show(m), show(kernel), e)
		}
		for i, x := range kernel {
			for k, j := range free {
				if len(x) != columns || !equalNumbers(x[j], identity(len(free))[i][k]) {
					t.Fatal(show(m), show(kernel))
				}
			}
		}
		if rows == 0 {
			return
		}
		b := must(vector.Apply(m, point))
		x, e := vector.Solve(m, b)
		if e != api.OK || len(x) != columns || !equalLists(must(vector.Apply(m, x)), b) {
			t.Fatal(show(m), show(api.Mat{x}), e)
		}
		for _, j := range free {
			if !equalNumbers(x[j], number("0")) {
				t.Fatal(show(m), show(api.Mat{x}))
			}
		}
	})
}

// P3.2 to P3.4: a part of 9,217 digits is too long.
func TestTooLongResults(t *testing.T) {
	big, small := tens(4608), "1/"+tens(4608)
	for _, c := range []struct {
		f []function
		a arguments
	}{
		{ofVectors()[:1], arguments{v: vec(big), w: vec(big)}},
		{ofVectors()[:1], arguments{v: vec("0 " + small), w: vec("5 " + small)}},
		{ofVectors()[:1], arguments{v: vec(nines() + " 1"), w: vec("1 1")}},
		{ofVectors()[1:], arguments{v: vec("1 " + nines()), w: vec("1 1")}},
		{ofVectors()[1:], arguments{v: vec("1/" + nines()), w: vec("1/2")}},
		{ofScale(), arguments{v: vec("1 " + nines()), x: number("2")}},
		{ofScale(), arguments{v: vec("1 1/" + nines()), x: number("1/2")}},
		{ofMatrixAndVector()[:1], arguments{m: mat("1 1", big+" 0"), v: vec(big + " 1")}},
		{ofBoth(), arguments{m: mat("1 1", big+" 0"), n: mat("1 "+big, "1 1")}},
		{ofMatrix()[1:3], arguments{m: mat(big + " " + small)}},
		{ofMatrix()[1:3], arguments{m: mat("1 0 1", "0 "+small+" "+big)}},
		{ofMatrix()[3:], arguments{m: mat(small+" "+big, "0 1")}},
		{ofMatrixAndVector()[1:], arguments{m: mat(small), v: vec(big)}},
		{ofMatrix()[1:3], arguments{m: mat("1 "+big+" 0", "0 1 "+big)}},
		{ofMatrix()[3:], arguments{m: mat("1 "+big+" 0", "0 1 "+big, "0 0 1")}},
		{ofMatrixAndVector()[1:], arguments{m: mat("1 "+big, "0 1"), v: vec("0 " + big)}},
	} {
		allFail(t, c.f, c.a, api.ErrOver)
	}
}

// P3.4: matrices of long numbers whose results are short enough.
func TestLongNumbers(t *testing.T) {
	s := source(11)
	long := func(limbs int) api.Rat {
		num, den := make(api.Nat, limbs), make(api.Nat, limbs)
		for i := range num {
			num[i], den[i] = uint32(1+s.below(api.Limb-1)), uint32(1+s.below(api.Limb-1))
		}
		return must(rat.Make(s.below(2) == 0, num, den))
	}
	for size := 1; size <= 5; size++ {
		m := make(api.Mat, size)
		for i := range m {
			for range size {
				m[i] = append(m[i], long(4))
			}
		}
		want, _ := reduced(classes(m))
		x, _, e := vector.Echelon(m)
		if e != api.OK || !slices.EqualFunc(classes(x), want, slices.Equal[[]int]) {
			t.Fatal(size, e)
		}
		inverse, e := vector.Inverse(m)
		if e != api.OK || !equal(must(vector.Mul(m, inverse)), identity(size)) {
			t.Fatal(size, e)
		}
	}
}
