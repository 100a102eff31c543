package vector_test

import (
	"slices"
	"strings"
	"testing"

	"parlour/api"
	"parlour/rat"
	"parlour/vector"
)

// number returns the number of a text.
func number(s string) api.Rat {
	x, f := rat.Parse(s)
	if f.Err != api.OK {
		panic(s)
	}
	return x
}

// vec returns the vector of a text of numbers, mat the matrix of texts of rows.
func vec(s string) api.Vec {
	var out api.Vec
	for _, word := range strings.Fields(s) {
		out = append(out, number(word))
	}
	return out
}

func mat(rows ...string) api.Mat {
	var out api.Mat
	for _, row := range rows {
		out = append(out, vec(row))
	}
	return out
}

// tens returns a power of ten in digits; the greatest one is tens(9215). nines returns the greatest natural number, and less the one below it.
func tens(exponent int) string { return "1" + strings.Repeat("0", exponent) }
func nines() string            { return strings.Repeat("9", 9216) }
func less() string             { return strings.Repeat("9", 9215) + "8" }

func equalNumbers(a, b api.Rat) bool {
	return a.Neg == b.Neg && slices.Equal(a.Num, b.Num) && slices.Equal(a.Den, b.Den)
}

func equalLists(a, b api.Vec) bool { return slices.EqualFunc(a, b, equalNumbers) }

func equal(a, b api.Mat) bool { return slices.EqualFunc(a, b, equalLists) }

// show returns the text of a matrix, cut for a message.
func show(m api.Mat) string {
	var rows []string
	for _, row := range m {
		var words []string
		for _, x := range row {
			s, e := rat.Text(x)
			if e != api.OK {
				s = "(" + e.Error() + ")"
			}
			words = append(words, s[:min(len(s), 30)])
		}
		rows = append(rows, strings.Join(words, " "))
	}
	s := strings.Join(rows, ", ")
	return s[:min(len(s), 600)]
}

// is checks that a result is valid, and the matrix that is wanted. Numbers and vectors are put into a matrix to be checked.
func is(t *testing.T, what string, got api.Mat, e api.Errno, want api.Mat) {
	t.Helper()
	if e != api.OK || !equal(got, want) {
		t.Errorf("%s: %s, %v, not %s", what, show(got), e, show(want))
	}
}

// fails checks that there is an error, and nothing else.
func fails(t *testing.T, what string, got api.Mat, e, want api.Errno) {
	t.Helper()
	if e != want || len(got) != 0 {
		t.Errorf("%s: %s, %v, not %v", what, show(got), e, want)
	}
}

// asMatrix returns what a function returns as a matrix: without elements if it is zero.
func asMatrix(v api.Vec, e api.Errno) (api.Mat, api.Errno) {
	if len(v) == 0 {
		return nil, e
	}
	return api.Mat{v}, e
}

func ofNumber(x api.Rat, e api.Errno) (api.Mat, api.Errno) {
	if equalNumbers(x, api.Rat{}) {
		return nil, e
	}
	return api.Mat{{x}}, e
}

// arguments are what functions of the package may be given.
type arguments struct {
	m, n api.Mat
	v, w api.Vec
	x    api.Rat
}

// function is a function of the package that computes something.
type function struct {
	name string
	call func(a arguments) (api.Mat, api.Errno)
}

// ofMatrix are the functions of m, ofBoth that of m and n, ofMatrixAndVector those of m and v, ofVectors those of v and w, ofScale that of v and x.
func ofMatrix() []function {
	return []function{
		{"Turn", func(a arguments) (api.Mat, api.Errno) { return vector.Turn(a.m) }},
		{"Echelon", func(a arguments) (api.Mat, api.Errno) {
			out, pivots, e := vector.Echelon(a.m)
			if e != api.OK && len(pivots) > 0 {
				return api.Mat{nil}, e
			}
			return out, e
		}},
		{"Kernel", func(a arguments) (api.Mat, api.Errno) { return vector.Kernel(a.m) }},
		{"Inverse", func(a arguments) (api.Mat, api.Errno) { return vector.Inverse(a.m) }},
	}
}

func ofBoth() []function {
	return []function{{"Mul", func(a arguments) (api.Mat, api.Errno) { return vector.Mul(a.m, a.n) }}}
}

func ofMatrixAndVector() []function {
	return []function{
		{"Apply", func(a arguments) (api.Mat, api.Errno) { return asMatrix(vector.Apply(a.m, a.v)) }},
		{"Solve", func(a arguments) (api.Mat, api.Errno) { return asMatrix(vector.Solve(a.m, a.v)) }},
	}
}

func ofVectors() []function {
	return []function{
		{"Dot", func(a arguments) (api.Mat, api.Errno) { return ofNumber(vector.Dot(a.v, a.w)) }},
		{"Add", func(a arguments) (api.Mat, api.Errno) { return asMatrix(vector.Add(a.v, a.w)) }},
	}
}

func ofScale() []function {
	return []function{{"Scale", func(a arguments) (api.Mat, api.Errno) { return asMatrix(vector.Scale(a.v, a.x)) }}}
}

func functions() []function {
	return slices.Concat(ofMatrix(), ofBoth(), ofMatrixAndVector(), ofVectors(), ofScale())
}

// allFail checks that each function has this error, and no result.
func allFail(t *testing.T, fs []function, a arguments, want api.Errno) {
	t.Helper()
	for _, f := range fs {
		x, e := f.call(a)
		fails(t, f.name, x, e, want)
	}
}

// source makes numbers that look as if by chance, always the same ones.
type source uint64

func (s *source) below(n int) int {
	*s = *s*6364136223846793005 + 1442695040888963407
	return int(uint64(*s) >> 33 % uint64(n))
}

// ints returns lists of ints of which many are 0, and of which some are sums of those before them.
func (s *source) ints(rows, columns int) [][]int {
	out := make([][]int, rows)
	for i := range out {
		out[i] = make([]int, columns)
		dependent := i > 1 && s.below(4) == 0
		for j := range out[i] {
			if out[i][j] = max(0, s.below(9)-3) - s.below(3); dependent {
				out[i][j] = out[i-1][j] - 2*out[i-2][j]
			}
		}
	}
	return out
}

// ofInts returns a matrix of ints.
func ofInts(lists [][]int) api.Mat {
	out := make(api.Mat, len(lists))
	for i, list := range lists {
		out[i] = make(api.Vec, len(list))
		for j, n := range list {
			out[i][j], _ = rat.Of(n, 1)
		}
	}
	return out
}

// matrix returns a matrix of fractions, of which some are 0 and some rows depend on others.
func (s *source) matrix(rows, columns int) api.Mat {
	out := ofInts(s.ints(rows, columns))
	if s.below(3) == 0 {
		return out
	}
	for _, row := range out {
		if s.below(3) == 0 {
			continue
		}
		factor := must(rat.Of(1+s.below(9), 1+s.below(9)))
		for j := range row {
			row[j] = must(rat.Mul(row[j], factor))
			if s.below(8) == 0 {
				row[j] = must(rat.Of(s.below(41)-20, 1+s.below(15)))
			}
		}
	}
	return out
}

// vector returns a vector of fractions.
func (s *source) vector(size int) api.Vec {
	if size == 0 {
		return nil
	}
	return s.matrix(1, size)[0]
}

// must returns a result that has no error.
func must[T any](x T, e api.Errno) T {
	if e != api.OK {
		panic(e)
	}
	return x
}

// identity returns the matrix with ones in its diagonal.
func identity(size int) api.Mat {
	lists := make([][]int, size)
	for i := range lists {
		lists[i] = make([]int, size)
		lists[i][i] = 1
	}
	return ofInts(lists)
}

// shapes calls f with numbers of rows and columns, small ones often.
func shapes(f func(s *source, rows, columns int)) {
	s := source(3)
	for rows := range 7 {
		for columns := range 7 {
			for range 12 {
				f(&s, rows, columns)
			}
		}
	}
	for _, c := range [][2]int{{1, 40}, {40, 1}, {12, 15}, {15, 12}} {
		f(&s, c[0], c[1])
	}
}
