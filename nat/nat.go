// Package nat is layer 1: natural numbers in limbs of nine decimal digits. See shared/doc/01-nat.md.
package nat

import (
	"cmp"
	"math"

	"parlour/api"
)

// limbDigits is how many decimal digits a limb has, maxDigits how many a number can have.
const (
	limbDigits = 9
	maxDigits  = limbDigits * api.MaxLimbs
)

// powers are the powers of ten below Limb: what a digit counts at each place of a limb.
var powers = [limbDigits]uint32{1, 10, 100, 1000, 10000, 100000, 1000000, 10000000, 100000000}

// Check returns the error of a list of limbs: ErrLong for too many, ErrForm if it is no valid number.
func Check(n api.Nat) api.Errno {
	if len(n) > api.MaxLimbs {
		return api.ErrLong
	}
	for _, limb := range n {
		if limb >= api.Limb {
			return api.ErrForm
		}
	}
	if len(n) > 0 && n[len(n)-1] == 0 {
		return api.ErrForm
	}
	return api.OK
}

// Of returns an int as a number.
func Of(a int) (api.Nat, api.Errno) {
	if a < 0 {
		return nil, api.ErrRange
	}
	return fromWord(uint64(a)), api.OK
}

// Int returns a number as an int.
func Int(n api.Nat) (int, api.Errno) {
	if e := Check(n); e != api.OK {
		return 0, e
	}
	if compare(n, fromWord(math.MaxInt64)) > 0 {
		return 0, api.ErrOver
	}
	return int(toWord(n)), api.OK
}

// Cmp returns -1, 0 or 1: whether a is less than b, equal, or greater.
func Cmp(a, b api.Nat) (int, api.Errno) {
	if e := checkAll(a, b); e != api.OK {
		return 0, e
	}
	return compare(a, b), api.OK
}

// Digits returns how many decimal digits a number has.
func Digits(n api.Nat) (int, api.Errno) {
	if e := Check(n); e != api.OK {
		return 0, e
	}
	return countDigits(n), api.OK
}

// checkAll returns the error of Check for the first number that has one.
func checkAll(numbers ...api.Nat) api.Errno {
	for _, n := range numbers {
		if e := Check(n); e != api.OK {
			return e
		}
	}
	return api.OK
}

// fit returns a number, or ErrOver if it has too many limbs.
func fit(n api.Nat) (api.Nat, api.Errno) {
	if len(n) > api.MaxLimbs {
		return nil, api.ErrOver
	}
	return n, api.OK
}

// trim takes the zeros off the high end; 0 becomes nil, so that it always looks the same.
func trim(n api.Nat) api.Nat {
	top := len(n)
	for top > 0 && n[top-1] == 0 {
		top--
	}
	if top == 0 {
		return nil
	}
	return n[:top]
}

// fromWord returns a machine word as a number.
func fromWord(x uint64) api.Nat {
	var n api.Nat
	for ; x > 0; x /= api.Limb {
		n = append(n, uint32(x%api.Limb))
	}
	return n
}

// toWord returns a number as a machine word. It must fit into one, as those of at most two limbs do.
func toWord(n api.Nat) uint64 {
	var x uint64
	for i := len(n) - 1; i >= 0; i-- {
		x = x*api.Limb + uint64(n[i])
	}
	return x
}

func compare(a, b api.Nat) int {
	if len(a) != len(b) {
		return cmp.Compare(len(a), len(b))
	}
	for i := len(a) - 1; i >= 0; i-- {
		if a[i] != b[i] {
			return cmp.Compare(a[i], b[i])
		}
	}
	return 0
}

func countDigits(n api.Nat) int {
	if len(n) == 0 {
		return 1
	}
	top := n[len(n)-1]
	digits := limbDigits * (len(n) - 1)
	for _, power := range powers {
		if power <= top {
			digits++
		}
	}
	return digits
}
