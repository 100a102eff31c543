package token

import "strings"

// The bytes of each kind, true at their own index.
var (
	whites = [...]bool{' ': true, '\t': true, '\n': true}
	digits = [...]bool{
		'0': true, '1': true, '2': true, '3': true, '4': true,
		'5': true, '6': true, '7': true, '8': true, '9': true,
	}
	letters = [...]bool{
		'A': true, 'B': true, 'C': true, 'D': true, 'E': true, 'F': true, 'G': true, 'H': true, 'I': true,
		'J': true, 'K': true, 'L': true, 'M': true, 'N': true, 'O': true, 'P': true, 'Q': true, 'R': true,
		'S': true, 'T': true, 'U': true, 'V': true, 'W': true, 'X': true, 'Y': true, 'Z': true, '_': true,
		'a': true, 'b': true, 'c': true, 'd': true, 'e': true, 'f': true, 'g': true, 'h': true, 'i': true,
		'j': true, 'k': true, 'l': true, 'm': true, 'n': true, 'o': true, 'p': true, 'q': true, 'r': true,
		's': true, 't': true, 'u': true, 'v': true, 'w': true, 'x': true, 'y': true, 'z': true,
	}
	singles = [...]bool{
		'{': true, '}': true, '(': true, ')': true, ':': true, ';': true, ',': true,
		'+': true, '-': true, '*': true, '/': true, '%': true, '<': true, '>': true, '=': true,
	}
)

// The signs of two bytes.
var pairs = [...]string{"==", "!=", "<=", ">=", ".."}

// class says what can begin with a byte.
type class int

const (
	other class = iota // a sign, or nothing
	white
	comment
	word
	number
)

func classOf(b byte) class {
	switch {
	case isWhite(b):
		return white
	case b == '#':
		return comment
	case isLetter(b):
		return word
	case isDigit(b):
		return number
	}
	return other
}

// The tables end at their last byte, so a greater one is in none of them.

func isWhite(b byte) bool  { return int(b) < len(whites) && whites[b] }
func isDigit(b byte) bool  { return int(b) < len(digits) && digits[b] }
func isLetter(b byte) bool { return int(b) < len(letters) && letters[b] }
func isSingle(b byte) bool { return int(b) < len(singles) && singles[b] }
func isInWord(b byte) bool { return isLetter(b) || isDigit(b) }

// run returns the longest beginning of a text whose bytes are all of a kind.
func run(text string, is func(byte) bool) string {
	for i := range len(text) {
		if !is(text[i]) {
			return text[:i]
		}
	}
	return text
}

// signOf returns the longest sign with which a text begins, or "" if there is none; the text is not empty.
func signOf(text string) string {
	for _, pair := range pairs {
		if strings.HasPrefix(text, pair) {
			return pair
		}
	}
	if isSingle(text[0]) {
		return text[:1]
	}
	return ""
}

// commentOf returns the comment with which a text begins.
func commentOf(text string) string {
	return run(text, func(b byte) bool { return b != '\n' })
}
