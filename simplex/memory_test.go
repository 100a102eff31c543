package simplex_test

import (
	"slices"
	"testing"

	"parlour/api"
	"parlour/simplex"
)

// data is what functions of the package get or return, without the numbers.
type data struct {
	rows  api.Mat
	lists []api.Vec
	ints  [][]int
}

func ofProgram(p api.Program) data { return data{rows: p.A, lists: []api.Vec{p.B, p.C}} }

func ofDict(d api.Dict) data {
	return data{d.Rows, []api.Vec{d.Rest, d.Cost, {d.Value}}, [][]int{d.Basic, d.Other}}
}

func ofSolution(s api.Solution) data { return data{lists: []api.Vec{s.X, s.Dual, s.Ray, {s.Value}}} }

// room is what stands behind the lists of arguments: nobody may write there.
var room = api.Nat{77, 78, 79}

func withRoom[A any](list []A, last A, copied func(x A) A) []A {
	out := make([]A, 0, len(list)+1)
	for _, x := range list {
		out = append(out, copied(x))
	}
	return append(out, last)[:len(list)]
}

func numberWithRoom(x api.Rat) api.Rat {
	limbs := func(n api.Nat) api.Nat { return append(slices.Clone(n), room...)[:len(n)] }
	return api.Rat{Neg: x.Neg, Num: limbs(x.Num), Den: limbs(x.Den)}
}

func listWithRoom(v api.Vec) api.Vec { return withRoom(v, api.Rat{Num: room}, numberWithRoom) }

func rowsWithRoom(m api.Mat) api.Mat { return withRoom(m, api.Vec{{Num: room}}, listWithRoom) }

func intsWithRoom(list []int) []int {
	return withRoom(list, 77, func(n int) int { return n })
}

func programWithRoom(p api.Program) api.Program {
	return api.Program{A: rowsWithRoom(p.A), B: listWithRoom(p.B), C: listWithRoom(p.C)}
}

func dictWithRoom(d api.Dict) api.Dict {
	return api.Dict{
		Basic: intsWithRoom(d.Basic), Other: intsWithRoom(d.Other), Rows: rowsWithRoom(d.Rows),
		Rest: listWithRoom(d.Rest), Cost: listWithRoom(d.Cost), Value: numberWithRoom(d.Value),
	}
}

// whole returns data with the room of all its lists, in which the limbs have none.
func whole(d data) data {
	out := data{}
	list := func(v api.Vec) api.Vec {
		var all api.Vec
		for _, x := range v[:cap(v)] {
			all = append(all, api.Rat{Neg: x.Neg, Num: x.Num[:cap(x.Num)], Den: x.Den[:cap(x.Den)]})
		}
		return all
	}
	for _, v := range d.rows[:cap(d.rows)] {
		out.rows = append(out.rows, list(v))
	}
	for _, v := range d.lists {
		out.lists = append(out.lists, list(v))
	}
	for _, l := range d.ints {
		out.ints = append(out.ints, l[:cap(l)])
	}
	return out
}

func equalData(a, b data) bool {
	return slices.EqualFunc(a.rows, b.rows, equalLists) && slices.EqualFunc(a.lists, b.lists, equalLists) && slices.EqualFunc(a.ints, b.ints, slices.Equal[[]int])
}

// alone reports whether no two lists of all data share memory. It writes a mark of its own into each of them, and looks whether all are still there at last.
func alone(all ...data) bool {
	var limbs []api.Nat
	var vectors []api.Vec
	var matrices []api.Mat
	var numbers [][]int
	for _, d := range all {
		matrices = append(matrices, d.rows[:cap(d.rows)])
		for _, list := range d.ints {
			numbers = append(numbers, list[:cap(list)])
		}
		for _, v := range slices.Concat(d.rows, d.lists) {
			vectors = append(vectors, v[:cap(v)])
			for _, x := range v {
				limbs = append(limbs, x.Num[:cap(x.Num)], x.Den[:cap(x.Den)])
			}
		}
	}
	return unshared(limbs, func(mark int) uint32 { return uint32(mark) }, func(a, b uint32) bool { return a == b }) &&
		unshared(vectors, func(mark int) api.Rat { return api.Rat{Num: api.Nat{uint32(mark)}} }, equalNumbers) &&
		unshared(matrices, func(mark int) api.Vec { return api.Vec{{Num: api.Nat{uint32(mark)}}} }, equalLists) &&
		unshared(numbers, func(mark int) int { return mark }, func(a, b int) bool { return a == b })
}

func unshared[S ~[]A, A any](lists []S, mark func(i int) A, equal func(a, b A) bool) bool {
	for i, list := range lists {
		for k := range list {
			list[k] = mark(i)
		}
	}
	for i, list := range lists {
		if slices.ContainsFunc(list, func(x A) bool { return !equal(x, mark(i)) }) {
			return false
		}
	}
	return true
}

// unchanged checks that two calls with the same argument have the same result, change nothing, and share no memory.
func unchanged(t *testing.T, what string, given, kept, first, again data) {
	t.Helper()
	if !equalData(whole(given), whole(kept)) {
		t.Fatal(what, "changes its argument")
	}
	if !equalData(first, again) {
		t.Fatal(what, "has two results")
	}
	if !alone(given, first, again) {
		t.Fatal(what, "shares memory")
	}
}

// R4
func TestMemoryOfPrograms(t *testing.T) {
	check := func(p api.Program) {
		given, kept := programWithRoom(p), programWithRoom(p)
		first, again := must(simplex.Start(given)), must(simplex.Start(given))
		unchanged(t, "Start", ofProgram(given), ofProgram(kept), ofDict(first), ofDict(again))
		given = programWithRoom(p)
		one, other := must(simplex.Solve(given)), must(simplex.Solve(given))
		if simplex.Check(given) != api.OK {
			t.Fatal(showProgram(given))
		}
		unchanged(t, "Solve", ofProgram(given), ofProgram(kept), ofSolution(one), ofSolution(other))
	}
	shapes(func(s *source, rows, columns int) {
		check(s.program(rows, columns, -3, -2))
	})
	for _, p := range []api.Program{{}, some(), program("-1", "0", "1"), program("-3", "0", "0"), program("0", "1", "-1"), program("-2 1", "1", "-1", "1"), program("1 2", "3 4", "0 1", "1 0")} {
		check(p)
	}
}

// R4
func TestMemoryOfDicts(t *testing.T) {
	shapes(func(s *source, rows, columns int) {
		d := s.dict(rows, columns, 0)
		given, kept := dictWithRoom(d), dictWithRoom(d)
		row, column, status, e := simplex.Next(given)
		if r, c, s, e2 := simplex.Next(given); r != row || c != column || s != status || e != api.OK || e2 != api.OK || simplex.Form(given) != api.OK {
			t.Fatal(showDict(d))
		}
		first, _, _, _ := simplex.Run(given)
		again, _, _, _ := simplex.Run(given)
		unchanged(t, "Run", ofDict(given), ofDict(kept), ofDict(first), ofDict(again))
		for i, row := range d.Rows {
			for j, x := range row[:min(3, len(row))] {
				if sign(x) != 0 {
					given, kept := dictWithRoom(d), dictWithRoom(d)
					first, again := must(simplex.Pivot(given, i, j)), must(simplex.Pivot(given, i, j))
					unchanged(t, "Pivot", ofDict(given), ofDict(kept), ofDict(first), ofDict(again))
				}
			}
		}
	})
}

// R4: nil lists and empty ones are equal.
func TestEmptyLists(t *testing.T) {
	nilled := func(v api.Vec) api.Vec {
		if len(v) == 0 {
			return nil
		}
		return v
	}
	shapes(func(s *source, rows, columns int) {
		if rows > 2 || columns > 2 {
			return
		}
		p := s.program(rows, columns, -3, -2)
		q := programWithRoom(p)
		p.B, p.C = nilled(p.B), nilled(p.C)
		for i, row := range p.A {
			p.A[i] = nilled(row)
		}
		d, e := simplex.Start(p)
		want, e2 := simplex.Start(q)
		if e != api.OK || e2 != api.OK || !equalDicts(d, want) || simplex.Form(d) != api.OK {
			t.Fatal(showProgram(p), showDict(d), e)
		}
		if one, other := must(simplex.Solve(p)), must(simplex.Solve(q)); !equalSolutions(one, other) {
			t.Fatal(showProgram(p), one, other)
		}
	})
}

// P1: nothing that is given leads to a panic, also if it is no program and no dictionary at all.
func TestRawArguments(t *testing.T) {
	bare := api.Vec{{}}
	many := make(api.Vec, 5000)
	for _, m := range []api.Mat{nil, {nil}, {nil, bare}, {bare, nil}, {bare}, make(api.Mat, 5000), mat("1", "2"), mat("1 2")} {
		for _, v := range []api.Vec{nil, bare, many, vec("1"), vec("-1"), vec("1 2")} {
			for _, w := range []api.Vec{nil, bare, many, vec("1"), vec("1 2")} {
				p := api.Program{A: m, B: v, C: w}
				want := simplex.Check(p)
				if d, e := simplex.Start(p); e != want || e != api.OK && !equalDicts(d, api.Dict{}) {
					t.Error(showProgram(p), e, want)
				}
				if s, e := simplex.Solve(p); e != want || e != api.OK && !equalSolutions(s, api.Solution{}) {
					t.Error(showProgram(p), e, want)
				}
				for _, basic := range [][]int{nil, {0}, {1, 0}, {-9}, make([]int, 5000)} {
					for _, other := range [][]int{nil, {1}, {0}, {1, 2}, {2, 99}} {
						raw(t, api.Dict{Basic: basic, Other: other, Rows: m, Rest: v, Cost: w, Value: number("1")})
						raw(t, api.Dict{Basic: basic, Other: other, Rows: m, Rest: v, Cost: w})
					}
				}
			}
		}
	}
}

// raw checks that all functions return the error of Form for a dictionary that has one, and nothing else.
func raw(t *testing.T, d api.Dict) {
	t.Helper()
	want := simplex.Form(d)
	for _, at := range [][2]int{{0, 0}, {-1, 5}, {1 << 62, -1 << 62}} {
		after, e := simplex.Pivot(d, at[0], at[1])
		if want != api.OK && e != want || e != api.OK && !equalDicts(after, api.Dict{}) {
			t.Error(showDict(d), e, want)
		}
	}
	row, column, status, e := simplex.Next(d)
	if want != api.OK && (e != want || row != 0 || column != 0 || status != 0) {
		t.Error(showDict(d), row, column, status, e, want)
	}
	last, status, steps, e := simplex.Run(d)
	if want != api.OK && (e != want || !equalDicts(last, api.Dict{}) || status != 0 || steps != 0) {
		t.Error(showDict(d), status, steps, e, want)
	}
}
