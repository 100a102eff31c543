package simplex_test

import (
	"slices"
	"testing"

	"parlour/api"
	"parlour/simplex"
)

// flawed returns numbers with an error, by their errors.
func flawed() map[api.Errno]api.Rat {
	return map[api.Errno]api.Rat{
		api.ErrZero: {Num: api.Nat{1}},
		api.ErrForm: {Num: api.Nat{2}, Den: api.Nat{4}},
		api.ErrLong: {Num: slices.Repeat(api.Nat{1}, 1025), Den: api.Nat{1}},
	}
}

func repeated(size int) api.Vec { return slices.Repeat(vec("2"), size) }

// P4.1
func TestCheck(t *testing.T) {
	square := slices.Repeat(api.Mat{repeated(40)}, 40)
	for i, c := range []struct {
		p    api.Program
		want api.Errno
	}{
		{api.Program{}, api.OK},
		{some(), api.OK},
		{program("", "1 2"), api.OK},
		{program("1 -2", "", "", ""), api.OK},
		{program("-1/2", "0", "3/4"), api.OK},
		{api.Program{A: square, B: repeated(40), C: repeated(40)}, api.OK},
		{api.Program{C: repeated(40)}, api.OK},
		{program("4", "3 2", "1 1", "1 3"), api.ErrType},
		{program("4 6 8", "3 2", "1 1", "1 3"), api.ErrType},
		{program("4 6", "3", "1 1", "1 3"), api.ErrType},
		{program("4 6", "3 2 1", "1 1", "1 3"), api.ErrType},
		{program("4 6", "", "1 1", "1 3"), api.ErrType},
		{program("", "3 2", "1 1", "1 3"), api.ErrType},
		{program("4", ""), api.ErrType},
		{program("1", "1", ""), api.ErrType},
		{program("", "1", ""), api.ErrType},
		{program("4 6", "3 2", "1 1", "1"), api.ErrForm},
		{program("4 6", "3 2", "1", "1 1"), api.ErrForm},
		{program("4", "3", "1", "1 1"), api.ErrForm},
		{api.Program{A: slices.Repeat(square, 2), B: repeated(80), C: repeated(40)}, api.ErrLong},
		{api.Program{A: api.Mat{repeated(41)}, B: repeated(1), C: repeated(41)}, api.ErrLong},
		{api.Program{A: square, B: repeated(41), C: repeated(40)}, api.ErrLong},
		{api.Program{A: square, B: repeated(40), C: repeated(41)}, api.ErrLong},
		{api.Program{C: repeated(41)}, api.ErrLong},
		{api.Program{B: repeated(41)}, api.ErrLong},
	} {
		if e := simplex.Check(c.p); e != c.want {
			t.Error(i, e, c.want)
		}
	}
}

// P4.1, R1: the error of A comes first, then that of B, that of C, and at last ErrType.
func TestOrderOfErrors(t *testing.T) {
	for a, x := range flawed() {
		for b, y := range flawed() {
			for c, z := range flawed() {
				for i, f := range []struct {
					p    api.Program
					want api.Errno
				}{
					{api.Program{A: api.Mat{vec("1 1"), {number("1"), x}}, B: api.Vec{y}, C: api.Vec{z}}, a},
					{api.Program{A: api.Mat{{x}, vec("1 1")}, B: api.Vec{y}, C: api.Vec{z}}, a},
					{api.Program{A: mat("1 1", "1 3"), B: api.Vec{number("1"), y}, C: api.Vec{z, x}}, b},
					{api.Program{A: mat("1 1", "1 3"), B: api.Vec{y}, C: api.Vec{z}}, b},
					{api.Program{A: mat("1 1", "1"), B: api.Vec{y}, C: api.Vec{z}}, api.ErrForm},
					{api.Program{A: mat("1 1", "1 3"), B: vec("4 6"), C: api.Vec{number("3"), z}}, c},
					{api.Program{A: mat("1 1", "1 3"), B: vec("4"), C: api.Vec{z}}, c},
					{api.Program{B: vec("4"), C: api.Vec{z}}, c},
				} {
					if e := simplex.Check(f.p); e != f.want {
						t.Error(i, e, f.want)
					}
				}
			}
		}
	}
}

// P4.1
func TestStart(t *testing.T) {
	for _, c := range []struct {
		p    api.Program
		want api.Dict
	}{
		{api.Program{}, dict("", "", "", "", "0")},
		{some(), dict("2 3", "0 1", "4 6", "3 2", "0", "1 1", "1 3")},
		{program("-1 2/3", "1/2 0 -3", "1 2 3", "-4 5/6 0"), dict("3 4", "0 1 2", "-1 2/3", "1/2 0 -3", "0", "1 2 3", "-4 5/6 0")},
		{program("", "1 2"), dict("", "0 1", "", "1 2", "0")},
		{program("1 -2", "", "", ""), dict("0 1", "", "1 -2", "", "0", "", "")},
	} {
		d, e := simplex.Start(c.p)
		isDict(t, showProgram(c.p), d, e, c.want)
	}
	shapes(func(s *source, rows, columns int) {
		p := s.program(rows, columns, -3, -4)
		d, e := simplex.Start(p)
		if e != api.OK || simplex.Form(d) != api.OK || len(d.Basic) != rows || len(d.Other) != columns {
			t.Fatal(showProgram(p), e)
		}
		for i, v := range slices.Concat(d.Other, d.Basic) {
			if v != i {
				t.Fatal(d.Basic, d.Other)
			}
		}
	})
}
