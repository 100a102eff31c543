package dual_test

import (
	"slices"
	"testing"

	"parlour/api"
	"parlour/dual"
	"parlour/simplex"
)

// room is what stands behind the lists of arguments: nobody may write there.
var room = api.Nat{77, 78, 79}

func limbsWithRoom(n api.Nat) api.Nat { return append(slices.Clone(n), room...)[:len(n)] }

// listWithRoom, rowsWithRoom and programWithRoom return copies that have room behind all their lists.
func listWithRoom(v api.Vec) api.Vec {
	out := make(api.Vec, 0, len(v)+1)
	for _, x := range v {
		out = append(out, api.Rat{Neg: x.Neg, Num: limbsWithRoom(x.Num), Den: limbsWithRoom(x.Den)})
	}
	return append(out, api.Rat{Num: room})[:len(v)]
}

func rowsWithRoom(m api.Mat) api.Mat {
	out := make(api.Mat, 0, len(m)+1)
	for _, v := range m {
		out = append(out, listWithRoom(v))
	}
	return append(out, api.Vec{{Num: room}})[:len(m)]
}

func programWithRoom(p api.Program) api.Program {
	return api.Program{A: rowsWithRoom(p.A), B: listWithRoom(p.B), C: listWithRoom(p.C)}
}

// whole returns all that stands in a list and behind it, also behind its limbs.
func whole(v api.Vec) api.Vec {
	var out api.Vec
	for _, x := range v[:cap(v)] {
		out = append(out, api.Rat{Neg: x.Neg, Num: x.Num[:cap(x.Num)], Den: x.Den[:cap(x.Den)]})
	}
	return out
}

func listsOf(p api.Program) []api.Vec { return append(slices.Clone(p.A), p.B, p.C) }

// same reports whether nobody has written to lists with room.
func same(given, kept []api.Vec) bool {
	return slices.EqualFunc(given, kept, func(a, b api.Vec) bool { return equalLists(whole(a), whole(b)) })
}

// alone reports whether no two lists share memory, nor their limbs. It writes a mark of its own into each of them, and looks whether all are still there at last.
func alone(lists ...api.Vec) bool {
	var limbs []api.Nat
	for _, v := range lists {
		for _, x := range v[:cap(v)] {
			if len(x.Num) == 0 || &x.Num[0] != &room[0] {
				limbs = append(limbs, x.Num[:cap(x.Num)], x.Den[:cap(x.Den)])
			}
		}
	}
	mark := func(i int) api.Rat { return api.Rat{Num: api.Nat{uint32(i)}} }
	return unshared(limbs, func(i int) uint32 { return uint32(i) }, func(a, b uint32) bool { return a == b }) && unshared(lists, mark, equalNumbers)
}

func unshared[S ~[]A, A any](lists []S, mark func(i int) A, equal func(a, b A) bool) bool {
	for i, list := range lists {
		for k := range list[:cap(list)] {
			list[:cap(list)][k] = mark(i)
		}
	}
	for i, list := range lists {
		if slices.ContainsFunc(list[:cap(list)], func(x A) bool { return !equal(x, mark(i)) }) {
			return false
		}
	}
	return true
}

// R4
func TestMemory(t *testing.T) {
	shapes(func(s *source, rows, columns int) {
		p := s.program(rows, columns, -1)
		x, y := s.list(columns, 0, 2), s.list(rows, 0, 3)
		if solution := solved(p); solution.Status == api.Optimal && s.below(2) > 0 {
			x, y = solution.X, solution.Dual
		}
		q, a, b := programWithRoom(p), listWithRoom(x), listWithRoom(y)
		given := append(listsOf(q), a, b)
		kept := append(listsOf(programWithRoom(p)), listWithRoom(x), listWithRoom(y))
		first, again := must(dual.Of(q)), must(dual.Of(q))
		inside, _ := dual.Feasible(q, a)
		tight, _ := dual.Tight(q, a)
		gap, e := dual.Gap(q, a, b)
		slack, _ := dual.Slack(q, a, b)
		s2 := api.Solution{Status: 1 + s.below(3), Value: dot(p.C, x), X: a, Dual: b}
		good, _ := dual.Accepts(q, s2)
		if !same(given, kept) {
			t.Fatal(showProgram(p))
		}
		gap2, e2 := dual.Gap(q, a, b)
		tight2, _ := dual.Tight(q, a)
		inside2, _ := dual.Feasible(q, a)
		slack2, _ := dual.Slack(q, a, b)
		good2, _ := dual.Accepts(q, s2)
		if !equalPrograms(first, again) || !equalNumbers(gap, gap2) || e != e2 || !slices.Equal(tight, tight2) || inside != inside2 || slack != slack2 || good != good2 {
			t.Fatal(showProgram(p))
		}
		if !alone(slices.Concat(given, listsOf(first), listsOf(again), []api.Vec{{gap}, {gap2}})...) {
			t.Fatal(showProgram(p))
		}
		for i := range tight {
			tight[i] = -1
		}
		if slices.Contains(tight2, -1) || !unshared([]api.Mat{q.A, first.A, again.A}, func(i int) api.Vec { return api.Vec{{Num: api.Nat{uint32(i)}}} }, equalLists) {
			t.Fatal(showProgram(p))
		}
	})
}

// R4: nil lists and empty ones are equal.
func TestEmptyLists(t *testing.T) {
	for _, p := range []api.Program{
		{}, {A: api.Mat{}, B: api.Vec{}, C: api.Vec{}}, {A: api.Mat{nil, nil}, B: vec("0 1")}, {A: api.Mat{nil, {}}, B: vec("0 1"), C: api.Vec{}},
		{A: api.Mat{}, C: vec("0 -1")}, {C: vec("0 -1"), B: api.Vec{}},
	} {
		if back := must(dual.Of(must(dual.Of(p)))); !equalPrograms(back, p) {
			t.Error(showProgram(p))
		}
		for _, none := range []api.Vec{nil, {}} {
			x, y := zeros(len(p.C)), zeros(len(p.B))
			if len(x) == 0 {
				x = none
			}
			if len(y) == 0 {
				y = none
			}
			inside, e := dual.Feasible(p, x)
			is(t, showProgram(p), inside, e, true)
			slack, e := dual.Slack(p, x, y)
			is(t, showProgram(p), slack, e, true)
			accepts(t, p, api.Solution{Status: api.Optimal, Value: number("0"), X: x, Dual: y, Ray: none}, true)
		}
	}
}

// P1: nothing that is given leads to a panic.
func TestRawArguments(t *testing.T) {
	bare := api.Vec{{}}
	many := make(api.Vec, 5000)
	vectors := []api.Vec{nil, bare, many, vec("1"), vec("-1"), vec("1 2")}
	for _, m := range []api.Mat{nil, {nil}, {nil, bare}, {bare, nil}, {bare}, make(api.Mat, 5000), {vec("1"), vec("2")}, {vec("1 2")}} {
		for _, b := range vectors {
			for _, c := range vectors {
				p := api.Program{A: m, B: b, C: c}
				want := simplex.Check(p)
				if d, e := dual.Of(p); e != want || e != api.OK && !equalPrograms(d, api.Program{}) {
					t.Error(showProgram(p), e, want)
				}
				for _, x := range vectors {
					for _, y := range vectors {
						raw(t, p, x, y, want)
					}
				}
			}
		}
	}
}

// raw checks that all functions return the error of a program that has one, and otherwise no error that the chapter does not name.
func raw(t *testing.T, p api.Program, x, y api.Vec, want api.Errno) {
	t.Helper()
	if want != api.OK {
		errorOfPoint(t, p, x, want)
		errorOfPair(t, p, x, y, want)
	} else if gap, e := dual.Gap(p, x, y); e != api.OK && !equalNumbers(gap, api.Rat{}) {
		t.Error(showProgram(p), show(x, y), e)
	}
	for status := range 5 {
		for _, ray := range []api.Vec{nil, x, y} {
			is, e := dual.Accepts(p, api.Solution{Status: status, X: x, Dual: y, Ray: ray})
			if e != want || is {
				t.Error(showProgram(p), show(x, y, ray), is, e, want)
			}
		}
	}
}
