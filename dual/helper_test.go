package dual_test

import (
	"cmp"
	"slices"
	"strings"
	"testing"

	"parlour/api"
	"parlour/rat"
	"parlour/simplex"
	"parlour/vector"
)

// number returns the number of a text.
func number(s string) api.Rat {
	x, f := rat.Parse(s)
	if f.Err != api.OK {
		panic(s)
	}
	return x
}

// vec returns the vector of a text of numbers.
func vec(s string) api.Vec {
	var out api.Vec
	for _, word := range strings.Fields(s) {
		out = append(out, number(word))
	}
	return out
}

// program returns a program: its B, its C, and the rows of its A.
func program(b, c string, rows ...string) api.Program {
	out := api.Program{B: vec(b), C: vec(c)}
	for _, row := range rows {
		out.A = append(out.A, vec(row))
	}
	return out
}

// some returns the program of the chapter's examples.
func some() api.Program { return program("4 6", "3 2", "1 1", "1 3") }

// best, none and growing return solutions of each status.
func best(value, x, y string) api.Solution {
	return api.Solution{Status: api.Optimal, Value: number(value), X: vec(x), Dual: vec(y)}
}

func none(y string) api.Solution {
	return api.Solution{Status: api.Infeasible, Value: number("0"), Dual: vec(y)}
}

func growing(x, ray string) api.Solution {
	return api.Solution{Status: api.Unbounded, Value: number("0"), X: vec(x), Ray: vec(ray)}
}

// tens returns a power of ten in digits; the greatest one is tens(9215). nines returns the greatest natural number.
func tens(exponent int) string { return "1" + strings.Repeat("0", exponent) }
func nines() string            { return strings.Repeat("9", 9216) }

func equalNumbers(a, b api.Rat) bool {
	return a.Neg == b.Neg && slices.Equal(a.Num, b.Num) && slices.Equal(a.Den, b.Den)
}

func equalLists(a, b api.Vec) bool { return slices.EqualFunc(a, b, equalNumbers) }

func equalPrograms(a, b api.Program) bool {
	return slices.EqualFunc(a.A, b.A, equalLists) && equalLists(a.B, b.B) && equalLists(a.C, b.C)
}

// show returns the text of vectors, cut for a message.
func show(all ...api.Vec) string {
	var out []string
	for _, v := range all {
		var words []string
		for _, x := range v {
			s, e := rat.Text(x)
			if e != api.OK {
				s = "(" + e.Error() + ")"
			}
			words = append(words, s[:min(len(s), 30)])
		}
		out = append(out, strings.Join(words, " "))
	}
	s := strings.Join(out, ", ")
	return s[:min(len(s), 900)]
}

func showProgram(p api.Program) string {
	return "rows " + show(p.A...) + "; B, C " + show(p.B, p.C)
}

// must returns a result that has no error.
func must[T any](x T, e api.Errno) T {
	if e != api.OK {
		panic(e)
	}
	return x
}

func sign(x api.Rat) int {
	if x.Neg {
		return -1
	}
	return cmp.Compare(len(x.Num), 0)
}

// all reports whether the signs of all numbers of a list are at least this one.
func all(v api.Vec, least int) bool {
	return !slices.ContainsFunc(v, func(x api.Rat) bool { return sign(x) < least })
}

func dot(a, b api.Vec) api.Rat { return must(vector.Dot(a, b)) }

func scaled(v api.Vec, x string) api.Vec { return must(vector.Scale(v, number(x))) }

func minus(a, b api.Vec) api.Vec { return must(vector.Add(a, scaled(b, "-1"))) }

// rests returns B - A*x, surplus the transpose of A times y, less C.
func rests(p api.Program, x api.Vec) api.Vec {
	var out api.Vec
	for i, row := range p.A {
		out = append(out, must(rat.Sub(p.B[i], dot(row, x))))
	}
	return out
}

func surplus(p api.Program, y api.Vec) api.Vec {
	var out api.Vec
	for k, c := range p.C {
		var column api.Vec
		for _, row := range p.A {
			column = append(column, row[k])
		}
		out = append(out, must(rat.Sub(dot(column, y), c)))
	}
	return out
}

func feasible(p api.Program, x api.Vec) bool { return all(x, 0) && all(rests(p, x), 0) }

func feasibleMultipliers(p api.Program, y api.Vec) bool { return all(y, 0) && all(surplus(p, y), 0) }

// products reports whether all products of the numbers of two lists are 0.
func products(a, b api.Vec) bool {
	for i, x := range a {
		if sign(must(rat.Mul(x, b[i]))) != 0 {
			return false
		}
	}
	return true
}

// solved returns the solution of a program.
func solved(p api.Program) api.Solution { return must(simplex.Solve(p)) }

func zeros(size int) api.Vec { return slices.Repeat(vec("0"), size) }

// source makes numbers that look as if by chance, always the same ones.
type source uint64

func (s *source) below(n int) int {
	*s = *s*6364136223846793005 + 1442695040888963407
	return int(uint64(*s) >> 33 % uint64(n))
}

// list returns numbers from low to high, with small denominators; every third one is 0.
func (s *source) list(size, low, high int) api.Vec {
	var out api.Vec
	for range size {
		den := max(1, s.below(8)-3)
		x := must(rat.Of(low*den+s.below((high-low)*den+1), den))
		if s.below(3) == 0 {
			x = number("0")
		}
		out = append(out, x)
	}
	return out
}

// program returns a program, with elements of A and B from low on.
func (s *source) program(rows, columns, low int) api.Program {
	out := api.Program{B: s.list(rows, low, 7), C: s.list(columns, -3, 4)}
	for range rows {
		out.A = append(out.A, s.list(columns, low, 4))
	}
	return out
}

// shapes calls f with numbers of rows and columns, small ones often.
func shapes(f func(s *source, rows, columns int)) {
	s := source(5)
	for rows := range 6 {
		for columns := range 6 {
			for range 20 {
				f(&s, rows, columns)
			}
		}
	}
	for _, c := range [][2]int{{1, 40}, {40, 1}, {0, 40}, {40, 0}, {9, 12}, {12, 9}} {
		f(&s, c[0], c[1])
	}
}

// with returns a list that differs from another one in its element i.
func with(v api.Vec, i int, x api.Rat) api.Vec {
	out := slices.Clone(v)
	out[i] = x
	return out
}

// is checks a result that is true or false.
func is(t *testing.T, what string, got bool, e api.Errno, want bool) {
	t.Helper()
	if got != want || e != api.OK {
		t.Errorf("%s: %v, %v, not %v", what, got, e, want)
	}
}
