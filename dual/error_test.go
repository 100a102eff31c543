package dual_test

import (
	"slices"
	"testing"

	"parlour/api"
	"parlour/dual"
	"parlour/simplex"
	"parlour/vector"
)

// flaws returns lists with an error, for programs of two rows and two columns.
func flaws() []api.Vec {
	return []api.Vec{
		vec("1"), vec("1 0 0"), nil, slices.Repeat(vec("1"), 41),
		{number("1"), {}}, {{Den: api.Nat{0}}, number("1")}, {{Num: api.Nat{2}, Den: api.Nat{4}}, {}},
		{{Neg: true, Den: api.Nat{1}}, number("0")}, {{Num: api.Nat{api.Limb}, Den: api.Nat{1}}, number("0")},
		{number("0"), {Num: slices.Repeat(api.Nat{1}, 1025), Den: api.Nat{1}}},
	}
}

// flawed returns programs with an error.
func flawed() []api.Program {
	out := []api.Program{
		program("4 6 1", "3 2", "1 1", "1 3"), program("4 6", "3", "1 1", "1 3"), program("4 6", "3 2", "1 1", "1"), program("1", ""), program("1", "1", ""),
		{C: slices.Repeat(vec("1"), 41)},
	}
	for _, v := range flaws() {
		rows, bounds, costs := some(), some(), some()
		rows.A[1], bounds.B, costs.C = v, v, v
		out = append(out, rows, bounds, costs)
	}
	return out
}

// errorOfPoint and errorOfPair check that functions return an error and nothing else: those that get a point, and those that get multipliers as well.
func errorOfPoint(t *testing.T, p api.Program, x api.Vec, want api.Errno) {
	t.Helper()
	is, e := dual.Feasible(p, x)
	tight, e2 := dual.Tight(p, x)
	if e != want || is || e2 != want || tight != nil {
		t.Error(showProgram(p), show(x), is, e, tight, e2, want)
	}
}

func errorOfPair(t *testing.T, p api.Program, x, y api.Vec, want api.Errno) {
	t.Helper()
	gap, e := dual.Gap(p, x, y)
	is, e2 := dual.Slack(p, x, y)
	if e != want || !equalNumbers(gap, api.Rat{}) || e2 != want || is {
		t.Error(showProgram(p), show(x, y), e, e2, is, want)
	}
}

// P5.1 to P5.3: the error of the program comes first, with the rest as it may be (R1, R3).
func TestErrorsOfPrograms(t *testing.T) {
	for _, p := range flawed() {
		want := simplex.Check(p)
		if want == api.OK {
			t.Fatal(showProgram(p))
		}
		if d, e := dual.Of(p); e != want || !equalPrograms(d, api.Program{}) {
			t.Error(showProgram(p), showProgram(d), e, want)
		}
		for _, v := range append(flaws(), vec("4 0"), vec("9 9")) {
			errorOfPoint(t, p, v, want)
			errorOfPair(t, p, v, v, want)
		}
		for _, s := range []api.Solution{{}, best("12", "4 0", "3 0"), none("1"), growing("0", "1")} {
			if is, e := dual.Accepts(p, s); e != want || is {
				t.Error(showProgram(p), is, e, want)
			}
		}
	}
}

// P5.1 and P5.2: then comes the error of the point, then that of the multipliers, and then ErrState.
func TestErrorsOfPoints(t *testing.T) {
	errorOf := func(v api.Vec) api.Errno {
		if e := vector.Check(v); e != api.OK {
			return e
		}
		return api.ErrType
	}
	found := map[api.Errno]bool{}
	for _, v := range flaws() {
		want := errorOf(v)
		found[want] = true
		errorOfPoint(t, some(), v, want)
		for _, w := range append(flaws(), vec("3 0"), vec("9 9"), vec("-1 -1")) {
			errorOfPair(t, some(), v, w, want)
		}
		for _, x := range []string{"4 0", "9 9", "-1 -1"} {
			errorOfPair(t, some(), vec(x), v, want)
		}
	}
	for _, e := range []api.Errno{api.ErrForm, api.ErrLong, api.ErrZero, api.ErrType} {
		if !found[e] {
			t.Error(e)
		}
	}
	// As many numbers as there are rows, or columns, not the other way round.
	wide := program("1", "1 2 3", "1 1 1")
	errorOfPoint(t, wide, vec("0"), api.ErrType)
	errorOfPair(t, wide, vec("0"), vec("3"), api.ErrType)
	errorOfPair(t, wide, vec("0 0 0"), vec("3 3 3"), api.ErrType)
	if gap, e := dual.Gap(wide, vec("0 0 0"), vec("3")); e != api.OK || !equalNumbers(gap, number("3")) {
		t.Error(e)
	}
}
