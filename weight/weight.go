// Package weight is layer 1: natural numbers of many digits, exact fractions that are not negative, and lists of them as weights. See shared/doc/01-weight.md.
package weight

import (
	"strconv"

	"cresset/api"
)

// maxInt is the greatest number of which Int returns the integer.
const maxInt = 1 << 62

// CheckNat returns ErrArg unless n is valid.
func CheckNat(n api.Nat) api.Errno {
	if !isNat(n) {
		return api.ErrArg
	}
	return api.OK
}

// Of returns the digits of an integer.
func Of(n int) (api.Nat, api.Errno) {
	if n < 0 {
		return "", api.ErrLess
	}
	return api.Nat(strconv.Itoa(n)), api.OK
}

// Int returns the integer of some digits.
func Int(n api.Nat) (int, api.Errno) {
	if !isNat(n) {
		return 0, api.ErrArg
	}
	number := parse(string(n))
	switch {
	case number.isZero():
		return 0, api.OK
	case number.compare(ofWord(maxInt)) > 0:
		return 0, api.ErrRange
	}
	return int(number[0]), api.OK
}

// Check returns ErrArg unless p is valid.
func Check(p api.Part) api.Errno {
	_, e := open(p)
	return e
}

// Make returns a fraction in lowest terms.
func Make(num, den api.Nat) (api.Part, api.Errno) {
	switch {
	case !isNat(num) || !isNat(den):
		return api.Part{}, api.ErrArg
	case den == "0":
		return api.Part{}, api.ErrZero
	}
	return lowest(parse(string(num)), parse(string(den))).part(), api.OK
}

// Ratio returns a quotient of integers.
func Ratio(a, b int) (api.Part, api.Errno) {
	switch {
	case a < 0 || b < 0:
		return api.Part{}, api.ErrLess
	case b == 0:
		return api.Part{}, api.ErrZero
	}
	return lowest(ofWord(uint64(a)), ofWord(uint64(b))).part(), api.OK
}
