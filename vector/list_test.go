package vector_test

import (
	"slices"
	"testing"

	"parlour/api"
	"parlour/rat"
	"parlour/vector"
)

// flawed returns numbers that are not valid, with their errors.
func flawed() map[api.Errno]api.Rat {
	return map[api.Errno]api.Rat{
		api.ErrZero: {Neg: true, Num: api.Nat{5}},
		api.ErrForm: {Num: api.Nat{2}, Den: api.Nat{4}},
		api.ErrLong: {Num: slices.Repeat(api.Nat{1}, 1025), Den: api.Nat{1}},
	}
}

// zeros returns a vector of zeros.
func zeros(size int) api.Vec { return slices.Repeat(vec("0"), size) }

// P3.1
func TestCheck(t *testing.T) {
	for i, v := range []api.Vec{nil, {}, vec("0"), vec("1 -2/3 0"), zeros(40), slices.Repeat(vec("-1/"+nines()), 40)} {
		if e := vector.Check(v); e != api.OK {
			t.Error(i, e)
		}
	}
	for want, x := range flawed() {
		for size := 1; size <= 40; size += 13 {
			for at := range size {
				v := zeros(size)
				v[at] = x
				if e := vector.Check(v); e != want {
					t.Error(size, at, e, want)
				}
			}
		}
		if e := vector.Check(slices.Repeat(api.Vec{x}, 41)); e != api.ErrLong {
			t.Error(e)
		}
		for other, y := range flawed() {
			if e := vector.Check(api.Vec{number("1"), x, y}); e != want {
				t.Error(e, want, other)
			}
		}
	}
	for _, size := range []int{41, 42, 1000} {
		if e := vector.Check(zeros(size)); e != api.ErrLong {
			t.Error(size, e)
		}
	}
}

// P3.1
func TestForm(t *testing.T) {
	zero, form := flawed()[api.ErrZero], flawed()[api.ErrForm]
	for i, c := range []struct {
		m    api.Mat
		want api.Errno
	}{
		{nil, api.OK},
		{api.Mat{}, api.OK},
		{mat(""), api.OK},
		{api.Mat{nil, {}, nil}, api.OK},
		{mat("1 2", "3 4"), api.OK},
		{mat("1", "2", "3"), api.OK},
		{slices.Repeat(api.Mat{zeros(40)}, 40), api.OK},
		{make(api.Mat, 40), api.OK},
		{make(api.Mat, 41), api.ErrLong},
		{slices.Repeat(api.Mat{{zero}}, 41), api.ErrLong},
		{slices.Repeat(mat("1", "1 2", "3"), 14), api.ErrLong},
		{api.Mat{zeros(41)}, api.ErrLong},
		{api.Mat{zeros(41), vec("1")}, api.ErrLong},
		{api.Mat{vec("1"), zeros(41)}, api.ErrForm},
		{mat("1 2", "1"), api.ErrForm},
		{mat("1", "1 2"), api.ErrForm},
		{mat("", "1"), api.ErrForm},
		{mat("1", ""), api.ErrForm},
		{mat("1 2", "3 4", "5 6", "7"), api.ErrForm},
		{api.Mat{{zero}}, api.ErrZero},
		{api.Mat{vec("1"), {zero}}, api.ErrZero},
		{api.Mat{{zero}, vec("1 2")}, api.ErrZero},
		{api.Mat{vec("1"), vec("1 2"), {zero}}, api.ErrForm},
		{api.Mat{vec("1"), {zero, zero}}, api.ErrForm},
		{api.Mat{vec("1"), {zero}, {form}}, api.ErrZero},
		{api.Mat{vec("1"), {form}, {zero}}, api.ErrForm},
		{api.Mat{{number("1"), zero, form}}, api.ErrZero},
	} {
		if e := vector.Form(c.m); e != c.want {
			t.Error(i, e, c.want)
		}
	}
}

// P3.2
func TestDot(t *testing.T) {
	for _, c := range []struct{ a, b, want string }{
		{"", "", "0"},
		{"1 2", "3 4", "11"},
		{"5", "-7/10", "-7/2"},
		{"0 0 0", "1 2 3", "0"},
		{"1 -1", "1/2 1/2", "0"},
		{"1/2 1/3 1/6", "1 1 1", "1"},
		{"2/3 -4/5 6/7", "-3/2 5/4 -7/6", "-3"},
		{nines() + " " + nines(), "1 -1", "0"},
		{less() + " 1", "1 1", nines()},
	} {
		x, e := vector.Dot(vec(c.a), vec(c.b))
		is(t, "Dot", api.Mat{{x}}, e, mat(c.want))
		x, e = vector.Dot(vec(c.b), vec(c.a))
		is(t, "Dot", api.Mat{{x}}, e, mat(c.want))
	}
	var squares int
	long := make([]int, 40)
	for i := range long {
		long[i] = i - 7
		squares += long[i] * long[i]
	}
	v := ofInts([][]int{long})[0]
	x, e := vector.Dot(v, v)
	is(t, "Dot", api.Mat{{x}}, e, ofInts([][]int{{squares}}))
}

// P3.2
func TestAdd(t *testing.T) {
	for _, c := range []struct{ a, b, want string }{
		{"", "", ""},
		{"1 2", "1/2 0", "3/2 2"},
		{"1 2 3", "-1 -2 -3", "0 0 0"},
		{"1/2 -1/3", "1/3 -1/2", "5/6 -5/6"},
		{less(), "1", nines()},
	} {
		x, e := vector.Add(vec(c.a), vec(c.b))
		is(t, "Add", api.Mat{x}, e, mat(c.want))
		x, e = vector.Add(vec(c.b), vec(c.a))
		is(t, "Add", api.Mat{x}, e, mat(c.want))
	}
	x, e := vector.Add(slices.Repeat(vec("1/3"), 40), slices.Repeat(vec("1/6"), 40))
	is(t, "Add", api.Mat{x}, e, api.Mat{slices.Repeat(vec("1/2"), 40)})
}

// P3.2
func TestScale(t *testing.T) {
	for _, c := range []struct{ v, x, want string }{
		{"", "5", ""},
		{"1 2", "-1/2", "-1/2 -1"},
		{"1 -2/3 0", "0", "0 0 0"},
		{"1 -2/3 0", "1", "1 -2/3 0"},
		{"3/4 -4/3", "4/3", "1 -16/9"},
		{"1 0", nines(), nines() + " 0"},
		{tens(4607), tens(4608), tens(9215)},
	} {
		x, e := vector.Scale(vec(c.v), number(c.x))
		is(t, "Scale", api.Mat{x}, e, mat(c.want))
	}
	x, e := vector.Scale(slices.Repeat(vec("3"), 40), number("1/6"))
	is(t, "Scale", api.Mat{x}, e, api.Mat{slices.Repeat(vec("1/2"), 40)})
}

// P3.2: vectors of different lengths have no sum, and no product.
func TestLengths(t *testing.T) {
	for a := range 5 {
		for b := range 5 {
			if a == b {
				continue
			}
			for _, f := range ofVectors() {
				x, e := f.call(arguments{v: zeros(a), w: zeros(b)})
				fails(t, f.name, x, e, api.ErrType)
				x, e = f.call(arguments{v: zeros(a + 36), w: zeros(b)})
				fails(t, f.name, x, e, api.ErrType)
			}
		}
	}
}

// P3.2: sums of small numbers are those of rat.
func TestElements(t *testing.T) {
	s := source(5)
	for size := range 41 {
		a, b := s.vector(size), s.vector(size)
		factor := must(rat.Of(s.below(19)-9, 1+s.below(5)))
		total, sum, scaled := number("0"), make(api.Vec, size), make(api.Vec, size)
		for i := range a {
			sum[i], scaled[i] = must(rat.Add(a[i], b[i])), must(rat.Mul(a[i], factor))
			total = must(rat.Add(total, must(rat.Mul(a[i], b[i]))))
		}
		x, e := vector.Dot(a, b)
		is(t, "Dot", api.Mat{{x}}, e, api.Mat{{total}})
		v, e := vector.Add(a, b)
		is(t, "Add", api.Mat{v}, e, api.Mat{sum})
		v, e = vector.Scale(a, factor)
		is(t, "Scale", api.Mat{v}, e, api.Mat{scaled})
	}
}
