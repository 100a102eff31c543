package vector_test

import (
	"slices"
	"testing"

	"parlour/api"
	"parlour/vector"
)

// badVectors returns vectors with an error, badMatrices matrices with one.
func badVectors() []api.Vec {
	out := []api.Vec{zeros(41), make(api.Vec, 41)}
	for _, x := range flawed() {
		out = append(out, api.Vec{x}, append(zeros(39), x), append(vec("1"), x))
	}
	return out
}

func badMatrices() []api.Mat {
	out := []api.Mat{make(api.Mat, 41), mat("1 2", "1"), mat("", "1")}
	for _, v := range badVectors() {
		out = append(out, api.Mat{v}, api.Mat{zeros(len(v)), v}, api.Mat{v, vec("1")})
	}
	return out
}

// goodVectors and goodMatrices return valid ones, of which some would fit the bad ones.
func goodVectors() []api.Vec { return []api.Vec{nil, vec("1"), vec("1 2"), zeros(40)} }

func goodMatrices() []api.Mat {
	return []api.Mat{nil, mat(""), mat("1"), mat("0"), mat("1 2", "2 4"), mat("1", "2")}
}

// R1, R3: the errors of the arguments come first, from left to right, and with one there is nothing else.
func TestErrorsOfMatrices(t *testing.T) {
	for _, m := range badMatrices() {
		want := vector.Form(m)
		allFail(t, ofMatrix(), arguments{m: m}, want)
		for _, v := range slices.Concat(goodVectors(), badVectors()) {
			allFail(t, ofMatrixAndVector(), arguments{m: m, v: v}, want)
		}
		for _, n := range slices.Concat(goodMatrices(), badMatrices()) {
			allFail(t, ofBoth(), arguments{m: m, n: n}, want)
		}
		for _, n := range goodMatrices() {
			allFail(t, ofBoth(), arguments{m: n, n: m}, want)
		}
	}
	for _, v := range badVectors() {
		for _, m := range goodMatrices() {
			allFail(t, ofMatrixAndVector(), arguments{m: m, v: v}, vector.Check(v))
		}
	}
}

// R1, R3
func TestErrorsOfVectors(t *testing.T) {
	for _, v := range badVectors() {
		want := vector.Check(v)
		for _, w := range slices.Concat(goodVectors(), badVectors()) {
			allFail(t, ofVectors(), arguments{v: v, w: w}, want)
		}
		for _, w := range goodVectors() {
			allFail(t, ofVectors(), arguments{v: w, w: v}, want)
		}
		allFail(t, ofScale(), arguments{v: v, x: number("2")}, want)
		for _, x := range flawed() {
			allFail(t, ofScale(), arguments{v: v, x: x}, want)
		}
	}
	for want, x := range flawed() {
		for _, v := range goodVectors() {
			allFail(t, ofScale(), arguments{v: v, x: x}, want)
		}
	}
}

// P1: nothing that is given leads to a panic, also if it has no number at all.
func TestRawArguments(t *testing.T) {
	for _, f := range functions() {
		for _, a := range []arguments{
			{},
			{m: make(api.Mat, 2), n: make(api.Mat, 2), v: make(api.Vec, 2), w: make(api.Vec, 2)},
			{m: api.Mat{{{}}}, n: api.Mat{nil, {{}}}},
			{m: api.Mat{nil, {{}}}, n: api.Mat{{{}}}},
			{m: make(api.Mat, 5000), n: make(api.Mat, 5000), v: make(api.Vec, 5000), w: make(api.Vec, 5000)},
		} {
			x, e := f.call(a)
			y, e2 := f.call(a)
			if e != e2 || !equal(x, y) {
				t.Error(f.name, show(x), show(y), e, e2)
			}
		}
	}
}

// room is what stands behind the limbs, the elements and the rows of arguments: nobody may write there.
var room = api.Nat{77, 78, 79}

// withinNumber, withinVector and withinMatrix return a copy with spare room behind each list.
func withinNumber(x api.Rat) api.Rat {
	list := func(n api.Nat) api.Nat { return append(slices.Clone(n), room...)[:len(n)] }
	return api.Rat{Neg: x.Neg, Num: list(x.Num), Den: list(x.Den)}
}

func withinVector(v api.Vec) api.Vec {
	out := make(api.Vec, 0, len(v)+1)
	for _, x := range v {
		out = append(out, withinNumber(x))
	}
	return append(out, api.Rat{Num: room})[:len(v)]
}

func withinMatrix(m api.Mat) api.Mat {
	out := make(api.Mat, 0, len(m)+1)
	for _, v := range m {
		out = append(out, withinVector(v))
	}
	return append(out, api.Vec{{Num: room}})[:len(m)]
}

func withinArguments(a arguments) arguments {
	return arguments{withinMatrix(a.m), withinMatrix(a.n), withinVector(a.v), withinVector(a.w), withinNumber(a.x)}
}

// wholeVector and wholeMatrix return what they get with its room, and with that of all its parts.
func wholeVector(v api.Vec) api.Vec {
	out := slices.Clone(v[:cap(v)])
	for i, x := range out {
		out[i] = api.Rat{Neg: x.Neg, Num: x.Num[:cap(x.Num)], Den: x.Den[:cap(x.Den)]}
	}
	return out
}

func wholeMatrix(m api.Mat) api.Mat {
	out := slices.Clone(m[:cap(m)])
	for i, v := range out {
		out[i] = wholeVector(v)
	}
	return out
}

func equalArguments(a, b arguments) bool {
	whole := func(a arguments) api.Mat {
		return slices.Concat(wholeMatrix(a.m), wholeMatrix(a.n), api.Mat{wholeVector(a.v), wholeVector(a.w), wholeVector(api.Vec{a.x})})
	}
	return equal(whole(a), whole(b))
}

// marks writes a mark of its own into each list of limbs, and reports whether all are still there at last: they are not if two lists share memory.
func marks(all ...api.Vec) bool {
	lists := make([]api.Nat, 0)
	for _, v := range all {
		for _, x := range v {
			lists = append(lists, x.Num[:cap(x.Num)], x.Den[:cap(x.Den)])
		}
	}
	for mark, n := range lists {
		for i := range n {
			n[i] = uint32(mark)
		}
	}
	for mark, n := range lists {
		if slices.ContainsFunc(n, func(limb uint32) bool { return limb != uint32(mark) }) {
			return false
		}
	}
	return true
}

// marksOfRows does the same with the numbers of each row.
func marksOfRows(all ...api.Vec) bool {
	for mark, v := range all {
		for i := range v[:cap(v)] {
			v[:cap(v)][i] = api.Rat{Num: api.Nat{uint32(mark)}}
		}
	}
	for mark, v := range all {
		if slices.ContainsFunc(v[:cap(v)], func(x api.Rat) bool { return x.Num[0] != uint32(mark) }) {
			return false
		}
	}
	return true
}

// R4: arguments are neither changed nor kept, and no two lists of results and arguments share memory.
func TestMemory(t *testing.T) {
	s := source(19)
	check := func(a arguments) {
		for _, f := range functions() {
			given, kept := withinArguments(a), withinArguments(a)
			first, e := f.call(given)
			again, e2 := f.call(given)
			if e != e2 || !equal(first, again) || !equalArguments(given, kept) {
				t.Fatal(f.name, show(a.m), show(first), show(again), e, e2)
			}
			all := slices.Concat(first, again, given.m, given.n, api.Mat{given.v, given.w})
			if !marks(append(all, api.Vec{given.x})...) || !marksOfRows(all...) {
				t.Fatal(f.name, show(a.m), "shares memory")
			}
		}
	}
	for range 60 {
		size := 1 + s.below(5)
		check(arguments{s.matrix(size, size), s.matrix(size, 1+s.below(5)), s.vector(size), s.vector(size), s.vector(1)[0]})
	}
	check(arguments{identity(3), identity(3), vec("1 0 0"), vec("0 1 0"), number("1")})
	check(arguments{identity(3), identity(3), vec("1 0 0"), vec("0 1 0"), number("0")})
	check(arguments{mat("0 0", "0 0"), mat("0 0", "0 0"), vec("0 0"), vec("0 0"), number("0")})
	check(arguments{x: number("3")})
}

// R4: the pivots are a list of their own.
func TestMemoryOfPivots(t *testing.T) {
	for range 2 {
		_, pivots, _ := vector.Echelon(identity(3))
		if !slices.Equal(pivots, []int{0, 1, 2}) {
			t.Fatal(pivots)
		}
		for i := range pivots {
			pivots[i] = 9
		}
	}
}

// R4: nil lists and empty ones are equal.
func TestEmptyLists(t *testing.T) {
	empty := func(m api.Mat) api.Mat {
		out := append(api.Mat{}, m...)
		for i, v := range out {
			out[i] = append(api.Vec{}, v...)
			for j, x := range out[i] {
				out[i][j].Num = append(api.Nat{}, x.Num...)
			}
		}
		return out
	}
	for _, m := range []api.Mat{nil, mat("", ""), mat("0"), mat("0 0", "1 0"), mat("0 1", "1 0"), mat("1 0 0", "0 0 2")} {
		for _, v := range []api.Mat{nil, mat(""), mat("0"), mat("0 0"), mat("0 1"), mat("0 0 1")} {
			for _, f := range functions() {
				b := arguments{m: empty(m), n: empty(m), v: api.Vec{}, w: api.Vec{}, x: api.Rat{Num: api.Nat{}, Den: api.Nat{1}}}
				a := arguments{m: m, n: m, x: number("0")}
				if len(v) > 0 {
					a.v, a.w, b.v, b.w = v[0], v[0], empty(v)[0], empty(v)[0]
				}
				x, e := f.call(a)
				y, e2 := f.call(b)
				if e != e2 || !equal(x, y) {
					t.Error(f.name, show(m), show(v), show(x), show(y), e, e2)
				}
			}
		}
	}
}
