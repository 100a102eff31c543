package simplex_test

import (
	"cmp"
	"slices"
	"strconv"
	"strings"
	"testing"

	"parlour/api"
	"parlour/rat"
	"parlour/vector"
)

// number returns the number of a text.
func number(s string) api.Rat {
	x, f := rat.Parse(s)
	if f.Err != api.OK {
		panic(s)
	}
	return x
}

// vec returns the vector of a text of numbers, mat the matrix of texts of rows, ints the numbers of variables.
func vec(s string) api.Vec {
	var out api.Vec
	for _, word := range strings.Fields(s) {
		out = append(out, number(word))
	}
	return out
}

func mat(rows ...string) api.Mat {
	var out api.Mat
	for _, row := range rows {
		out = append(out, vec(row))
	}
	return out
}

func ints(s string) []int {
	var out []int
	for _, word := range strings.Fields(s) {
		n, err := strconv.Atoi(word)
		if err != nil {
			panic(err)
		}
		out = append(out, n)
	}
	return out
}

// program returns a program: its B, its C, and the rows of its A.
func program(b, c string, rows ...string) api.Program {
	return api.Program{A: mat(rows...), B: vec(b), C: vec(c)}
}

// some returns the program of the chapter's examples.
func some() api.Program { return program("4 6", "3 2", "1 1", "1 3") }

// dict returns a dictionary.
func dict(basic, other, rest, cost, value string, rows ...string) api.Dict {
	return api.Dict{Basic: ints(basic), Other: ints(other), Rows: mat(rows...), Rest: vec(rest), Cost: vec(cost), Value: number(value)}
}

// tens returns a power of ten in digits; the greatest one is tens(9215). nines returns the greatest natural number, and less the one below it.
func tens(exponent int) string { return "1" + strings.Repeat("0", exponent) }
func nines() string            { return strings.Repeat("9", 9216) }
func less() string             { return strings.Repeat("9", 9215) + "8" }

func equalNumbers(a, b api.Rat) bool {
	return a.Neg == b.Neg && slices.Equal(a.Num, b.Num) && slices.Equal(a.Den, b.Den)
}

func equalLists(a, b api.Vec) bool { return slices.EqualFunc(a, b, equalNumbers) }

func equalDicts(a, b api.Dict) bool {
	return slices.Equal(a.Basic, b.Basic) && slices.Equal(a.Other, b.Other) && slices.EqualFunc(a.Rows, b.Rows, equalLists) &&
		equalLists(a.Rest, b.Rest) && equalLists(a.Cost, b.Cost) && equalNumbers(a.Value, b.Value)
}

func equalSolutions(a, b api.Solution) bool {
	return a.Status == b.Status && equalNumbers(a.Value, b.Value) && equalLists(a.X, b.X) && equalLists(a.Dual, b.Dual) && equalLists(a.Ray, b.Ray)
}

// show returns the text of vectors, cut for a message.
func show(all ...api.Vec) string {
	var out []string
	for _, v := range all {
		var words []string
		for _, x := range v {
			s, e := rat.Text(x)
			if e != api.OK {
				s = "(" + e.Error() + ")"
			}
			words = append(words, s[:min(len(s), 30)])
		}
		out = append(out, strings.Join(words, " "))
	}
	s := strings.Join(out, ", ")
	return s[:min(len(s), 900)]
}

func showProgram(p api.Program) string {
	return "rows " + show(p.A...) + "; B, C " + show(p.B, p.C)
}

func showDict(d api.Dict) string {
	return "rows " + show(d.Rows...) + "; rest, cost, value " + show(d.Rest, d.Cost, api.Vec{d.Value})
}

// isDict checks that a result is the dictionary that is wanted.
func isDict(t *testing.T, what string, got api.Dict, e api.Errno, want api.Dict) {
	t.Helper()
	if e != api.OK || !equalDicts(got, want) {
		t.Errorf("%s: %v, %v, %s, %v, not %v, %v, %s", what, got.Basic, got.Other, showDict(got), e, want.Basic, want.Other, showDict(want))
	}
}

// must returns a result that has no error.
func must[T any](x T, e api.Errno) T {
	if e != api.OK {
		panic(e)
	}
	return x
}

func compare(a, b api.Rat) int { return must(rat.Cmp(a, b)) }

func sign(x api.Rat) int {
	if x.Neg {
		return -1
	}
	return cmp.Compare(len(x.Num), 0)
}

// none reports whether no number of a list has the sign.
func none(v api.Vec, unwanted int) bool {
	return !slices.ContainsFunc(v, func(x api.Rat) bool { return sign(x) == unwanted })
}

func dot(a, b api.Vec) api.Rat { return must(vector.Dot(a, b)) }

func minus(a, b api.Vec) api.Vec {
	return must(vector.Add(a, must(vector.Scale(b, number("-1")))))
}

// times returns A*x, and across the transpose of A times y, also if there are no rows or no columns.
func times(p api.Program, x api.Vec) api.Vec {
	var out api.Vec
	for _, row := range p.A {
		out = append(out, dot(row, x))
	}
	return out
}

func across(p api.Program, y api.Vec) api.Vec {
	var out api.Vec
	for k := range p.C {
		var column api.Vec
		for _, row := range p.A {
			column = append(column, row[k])
		}
		out = append(out, dot(column, y))
	}
	return out
}

func feasible(p api.Program, x api.Vec) bool {
	return len(x) == len(p.C) && none(x, -1) && none(minus(p.B, times(p, x)), -1)
}

// proves reports whether a solution is a certificate of the program.
func proves(p api.Program, s api.Solution) bool {
	multipliers := len(s.Dual) == len(p.B) && none(s.Dual, -1)
	rest := len(s.Ray) == 0
	switch s.Status {
	case api.Optimal:
		return rest && multipliers && feasible(p, s.X) && none(minus(across(p, s.Dual), p.C), -1) &&
			equalNumbers(dot(p.C, s.X), s.Value) && equalNumbers(dot(p.B, s.Dual), s.Value)
	case api.Infeasible:
		return rest && multipliers && len(s.X) == 0 && equalNumbers(s.Value, number("0")) &&
			none(across(p, s.Dual), -1) && sign(dot(p.B, s.Dual)) < 0
	case api.Unbounded:
		return len(s.Dual) == 0 && equalNumbers(s.Value, number("0")) && feasible(p, s.X) &&
			len(s.Ray) == len(p.C) && none(s.Ray, -1) && none(times(p, s.Ray), 1) && sign(dot(p.C, s.Ray)) > 0
	}
	return false
}

func ofInt(n int) (api.Rat, api.Errno) { return rat.Of(n, 1) }

func zeros(size int) api.Vec { return slices.Repeat(vec("0"), size) }

// unit returns zeros but for a number at one place.
func unit(size, place int, x string) api.Vec {
	out := zeros(size)
	out[place] = number(x)
	return out
}

// values returns the values of all variables, and of the objective, that belong to values of the other variables.
func values(d api.Dict, others api.Vec) (all api.Vec, objective api.Rat) {
	all = make(api.Vec, len(d.Basic)+len(d.Other))
	for j, v := range d.Other {
		all[v] = others[j]
	}
	for i, v := range d.Basic {
		all[v] = must(rat.Sub(d.Rest[i], dot(d.Rows[i], others)))
	}
	return all, must(rat.Add(d.Value, dot(d.Cost, others)))
}

// fit reports whether values of all variables fit a dictionary, with this objective.
func fit(d api.Dict, all api.Vec, objective api.Rat) bool {
	var others api.Vec
	for _, v := range d.Other {
		others = append(others, all[v])
	}
	same, value := values(d, others)
	return equalLists(same, all) && equalNumbers(value, objective)
}

// source makes numbers that look as if by chance, always the same ones.
type source uint64

func (s *source) below(n int) int {
	*s = *s*6364136223846793005 + 1442695040888963407
	return int(uint64(*s) >> 33 % uint64(n))
}

// between returns a number from low to high: a fraction with a small denominator, or an int.
func (s *source) between(low, high int) api.Rat {
	den := max(1, s.below(8)-3)
	return must(rat.Of(low*den+s.below((high-low)*den+1), den))
}

// list returns numbers of which every third is 0.
func (s *source) list(size, low, high int) api.Vec {
	var out api.Vec
	for range size {
		x := s.between(low, high)
		if s.below(3) == 0 {
			x = number("0")
		}
		out = append(out, x)
	}
	return out
}

func (s *source) rows(rows, columns, low, high int) api.Mat {
	var out api.Mat
	for range rows {
		out = append(out, s.list(columns, low, high))
	}
	return out
}

// long returns a fraction whose parts have this many limbs.
func (s *source) long(neg bool, limbs int) api.Rat {
	num, den := make(api.Nat, limbs), make(api.Nat, limbs)
	for i := range num {
		num[i], den[i] = uint32(api.Limb-1-s.below(1000000)), uint32(api.Limb-1-s.below(1000000))
	}
	return must(rat.Make(neg, num, den))
}

// order returns the numbers from 0 on in any order.
func (s *source) order(size int) []int {
	out := make([]int, size)
	for i := range out {
		k := s.below(i + 1)
		out[i], out[k] = out[k], i
	}
	return out
}

// dict returns a dictionary, with rests from low on.
func (s *source) dict(rows, columns, low int) api.Dict {
	variables := s.order(rows + columns)
	return api.Dict{
		Basic: variables[:rows:rows], Other: variables[rows:],
		Rows: s.rows(rows, columns, -3, 4), Rest: s.list(rows, low, 6), Cost: s.list(columns, -4, 3), Value: s.between(-9, 9),
	}
}

// program returns a program, with elements of A and B from low on.
func (s *source) program(rows, columns, lowA, lowB int) api.Program {
	return api.Program{A: s.rows(rows, columns, lowA, 4), B: s.list(rows, lowB, 7), C: s.list(columns, -3, 4)}
}

// shapes calls f with numbers of rows and columns, small ones often.
func shapes(f func(s *source, rows, columns int)) {
	s := source(3)
	for rows := range 7 {
		for columns := range 7 {
			for range 12 {
				f(&s, rows, columns)
			}
		}
	}
	for _, c := range [][2]int{{1, 40}, {40, 1}, {0, 40}, {40, 0}, {12, 15}, {15, 12}} {
		f(&s, c[0], c[1])
	}
}
