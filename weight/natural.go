package weight

import (
	"cmp"
	"iter"
	"math"
	"math/bits"
	"slices"
	"strings"

	"cresset/api"
)

// natural is a natural number: limbs of 64 bits, the least one first, without zeros at the end, so that 0 has no limb. Two naturals may share limbs: what is said to be done in place is only done to copies.
type natural []uint64

// groupSize is how many digits go into a limb at once.
const groupSize = 18

// tens has the powers of ten up to that of a whole group.
var tens = [groupSize + 1]uint64{
	1, 10, 100, 1000, 10000, 100000,
	1000000, 10000000, 100000000, 1000000000, 10000000000, 100000000000,
	1000000000000, 10000000000000, 100000000000000, 1000000000000000, 10000000000000000, 100000000000000000,
	1000000000000000000,
}

// isDigits reports whether s is one digit or more.
func isDigits(s string) bool {
	for i := range len(s) {
		if s[i] < '0' || s[i] > '9' {
			return false
		}
	}
	return s != ""
}

// isNumber reports whether s is digits that do not begin with 0 unless they are 0 alone.
func isNumber(s string) bool {
	return isDigits(s) && (s[0] != '0' || len(s) == 1)
}

// isNat reports whether n is a valid natural number.
func isNat(n api.Nat) bool {
	return len(n) <= api.MaxDigits && isNumber(string(n))
}

// groups yields the digits of s, from the front, in groups that a limb can hold: the number that a group is, and the power of ten that makes room for it.
func groups(s string) iter.Seq2[uint64, uint64] {
	return func(yield func(group, room uint64) bool) {
		for s != "" {
			size := min(len(s), groupSize)
			group := uint64(0)
			for i := range size {
				group = group*10 + uint64(s[i]-'0')
			}
			if !yield(group, tens[size]) {
				return
			}
			s = s[size:]
		}
	}
}

// parse returns the number of some digits, which may begin with zeros.
func parse(s string) natural {
	n := make(natural, 0, len(s)/groupSize+1)
	for group, room := range groups(s) {
		for i, limb := range n {
			n[i], group = multiplyAdd(limb, room, group)
		}
		if group != 0 {
			n = append(n, group)
		}
	}
	return n
}

// digits returns the decimal digits of n.
func (n natural) digits() string {
	rest := slices.Clone(n)
	var reversed []byte
	for len(rest) > 0 {
		var group uint64
		rest, group = rest.shrink(tens[groupSize])
		for range groupSize {
			reversed = append(reversed, '0'+byte(group%10))
			group /= 10
		}
	}
	slices.Reverse(reversed)
	text := strings.TrimLeft(string(reversed), "0")
	if text == "" {
		return "0"
	}
	return text
}

// powerOfTen returns 1 with so many zeros behind it.
func powerOfTen(zeros int) natural {
	return parse("1" + strings.Repeat("0", zeros))
}

// ofWord returns w as a natural.
func ofWord(w uint64) natural {
	return natural{w}.trim()
}

func (n natural) isZero() bool {
	return len(n) == 0
}

func (n natural) isOne() bool {
	return len(n) == 1 && n[0] == 1
}

// trim returns n without the zeros at its end.
func (n natural) trim() natural {
	for len(n) > 0 && n[len(n)-1] == 0 {
		n = n[:len(n)-1]
	}
	return n
}

// bitLength returns how many bits n has, without leading zeros.
func (n natural) bitLength() int {
	if n.isZero() {
		return 0
	}
	return len(n)*64 - bits.LeadingZeros64(n[len(n)-1])
}

// compare returns -1, 0 or 1 as n is less than, equal to, or greater than m.
func (n natural) compare(m natural) int {
	if len(n) != len(m) {
		return cmp.Compare(len(n), len(m))
	}
	for i := len(n) - 1; i >= 0; i-- {
		if n[i] != m[i] {
			return cmp.Compare(n[i], m[i])
		}
	}
	return 0
}

// plus returns n + m.
func (n natural) plus(m natural) natural {
	if len(n) < len(m) {
		n, m = m, n
	}
	sum := make(natural, len(n)+1)
	copy(sum, n)
	sum.raise(m)
	return sum.trim()
}

// raise adds m to n in place. What it carries out of n's last limb is lost, and reported.
func (n natural) raise(m natural) bool {
	carry := uint64(0)
	for i := range n {
		if i >= len(m) && carry == 0 {
			break
		}
		limb := uint64(0)
		if i < len(m) {
			limb = m[i]
		}
		n[i], carry = bits.Add64(n[i], limb, carry)
	}
	return carry != 0
}

// minus returns n - m, for an m that is not above n.
func (n natural) minus(m natural) natural {
	difference := slices.Clone(n)
	difference.lower(m, 1)
	return difference.trim()
}

// lower takes m times factor from n in place, for an n with at least as many limbs. What it borrows beyond n's last limb is lost, and reported.
func (n natural) lower(m natural, factor uint64) bool {
	carry, borrow := uint64(0), uint64(0)
	for i := range n {
		if i >= len(m) && carry == 0 && borrow == 0 {
			break
		}
		take := carry
		carry = 0
		if i < len(m) {
			take, carry = multiplyAdd(m[i], factor, take)
		}
		n[i], borrow = bits.Sub64(n[i], take, borrow)
	}
	return carry != 0 || borrow != 0
}

// times returns n times m.
func (n natural) times(m natural) natural {
	product := make(natural, len(n)+len(m))
	for i, factor := range n {
		carry := uint64(0)
		for k, limb := range m {
			var low, over uint64
			low, carry = multiplyAdd(limb, factor, carry)
			product[i+k], over = bits.Add64(product[i+k], low, 0)
			carry += over
		}
		product[i+len(m)] = carry
	}
	return product.trim()
}

// multiplyAdd returns the low and the high limb of a times b plus more, which is always less than 2^128.
func multiplyAdd(a, b, more uint64) (low, high uint64) {
	high, low = bits.Mul64(a, b)
	low, carry := bits.Add64(low, more, 0)
	return low, high + carry
}

// shrink divides n by a limb in place, and returns the quotient and what is left.
func (n natural) shrink(by uint64) (natural, uint64) {
	left := uint64(0)
	for i := len(n) - 1; i >= 0; i-- {
		n[i], left = bits.Div64(left, n[i], by)
	}
	return n.trim(), left
}

// divide returns the quotient of n and m, which is not 0, and what is left. (It is long division with limbs as digits: Knuth, The Art of Computer Programming, 4.3.1, algorithm D.)
func (n natural) divide(m natural) (quotient, left natural) {
	if n.compare(m) < 0 {
		return nil, n
	}
	if len(m) == 1 {
		q, r := slices.Clone(n).shrink(m[0])
		return q, ofWord(r)
	}
	// A divisor whose highest bit is 1 makes the guesses good.
	shift := bits.LeadingZeros64(m[len(m)-1])
	divisor := m.shiftLeft(shift).trim()
	left = n.shiftLeft(shift)
	quotient = make(natural, len(n)-len(m)+1)
	for i := len(quotient) - 1; i >= 0; i-- {
		quotient[i] = left[i : i+len(m)+1].divideStep(divisor)
	}
	return quotient.trim(), left.shiftRight(shift)
}

// divideStep takes divisor, whose highest bit is 1, from n as often as that is possible, and returns how often that is. n has one limb more than divisor, and is less than divisor times 2^64.
func (n natural) divideStep(divisor natural) uint64 {
	last := len(divisor) - 1
	guess := uint64(math.MaxUint64)
	if n[last+1] < divisor[last] {
		guess, _ = bits.Div64(n[last+1], n[last], divisor[last])
	}
	// The guess is at most 2 too great, and never too small.
	below := n.lower(divisor, guess)
	for below {
		guess--
		below = !n.raise(divisor)
	}
	return guess
}

// shiftLeft returns n times 2^shift, for a shift below 64, with one limb more than n, which may be 0.
func (n natural) shiftLeft(shift int) natural {
	shifted := make(natural, len(n)+1)
	for i, limb := range n {
		shifted[i] |= limb << shift
		shifted[i+1] = limb >> (64 - shift)
	}
	return shifted
}

// shiftRight returns n divided by 2^shift, for a shift below 64, without what is left.
func (n natural) shiftRight(shift int) natural {
	shifted := make(natural, len(n))
	for i, limb := range n {
		shifted[i] = limb >> shift
		if i > 0 {
			shifted[i-1] |= limb << (64 - shift)
		}
	}
	return shifted.trim()
}

// over returns n divided by a divisor of it.
func (n natural) over(divisor natural) natural {
	if divisor.isOne() {
		return n
	}
	quotient, _ := n.divide(divisor)
	return quotient
}
