package weight

import (
	"math/bits"
	"slices"
)

// gcd returns the greatest common divisor. (It is Euclid's algorithm in Lehmer's form: the leading bits of both numbers tell many of its steps, which are then made at once.)
func gcd(a, b natural) natural {
	if a.compare(b) < 0 {
		a, b = b, a
	}
	if len(b) > 1 { // leaps are made in place
		a, b = slices.Clone(a), slices.Clone(b)
	}
	for len(b) > 1 {
		if l, ok := foresee(a, b); ok {
			a, b = l.apply(a, b)
		} else {
			_, left := a.divide(b)
			a, b = b, left
		}
	}
	if b.isZero() {
		return a
	}
	_, left := slices.Clone(a).shrink(b[0])
	return ofWord(gcdOfWords(b[0], left))
}

func gcdOfWords(a, b uint64) uint64 {
	for b != 0 {
		a, b = b, a%b
	}
	return a
}

// leap is some steps of Euclid's algorithm at once. An even number of steps makes of a and b the numbers b1 b - a1 a and a2 a - b2 b, an odd number a1 a - b1 b and b2 b - a2 a.
type leap struct {
	a1, b1, a2, b2 uint64
	even           bool
}

// foresee returns the steps from a and b that are sure from the leading bits alone, and whether there are some. a is not less than b, which has at least two limbs. (What is sure is told by Collins' condition, which also keeps the factors within a limb: Jebelean, A double-digit Lehmer-Euclid algorithm for finding the GCD of long integers, section 4.2.)
func foresee(a, b natural) (leap, bool) {
	x, y := leading(a, b)
	l := leap{a2: 1, even: true}
	a3, b3 := uint64(0), uint64(1)
	for y >= b3 && x-y >= l.b2+b3 {
		q := x / y
		x, y = y, x%y
		l.a1, l.a2, a3 = l.a2, a3, l.a2+q*a3
		l.b1, l.b2, b3 = l.b2, b3, l.b2+q*b3
		l.even = !l.even
	}
	return l, l.b1 != 0
}

// leading returns the 64 leading bits of a, and those of b at the same positions.
func leading(a, b natural) (x, y uint64) {
	n := len(a)
	shift := bits.LeadingZeros64(a[n-1])
	x = a[n-1]<<shift | a[n-2]>>(64-shift)
	switch len(b) {
	case n:
		y = b[n-1]<<shift | b[n-2]>>(64-shift)
	case n - 1:
		y = b[n-2] >> (64 - shift)
	}
	return x, y
}

// apply makes the steps of l from a and b, whose limbs it uses for the results. a has at most one limb more than b.
func (l leap) apply(a, b natural) (natural, natural) {
	if len(b) < len(a) {
		b = append(b, 0)
	}
	if l.even {
		a, b = b, a
		l.a1, l.b1 = l.b1, l.a1
		l.a2, l.b2 = l.b2, l.a2
	}
	var first, second difference
	for i := range a {
		x, y := a[i], b[i]
		a[i] = first.next(l.a1, x, l.b1, y)
		b[i] = second.next(l.b2, y, l.a2, x)
	}
	return a.trim(), b.trim()
}

// difference is what the limbs so far leave for the next one, in the difference of two products.
type difference struct{ carry, owed uint64 }

// next returns the next limb of f times the number with the limb x less g times the one with the limb y.
func (d *difference) next(f, x, g, y uint64) uint64 {
	var high, low, limb, borrow uint64
	high, d.carry = multiplyAdd(f, x, d.carry)
	low, d.owed = multiplyAdd(g, y, d.owed)
	limb, borrow = bits.Sub64(high, low, 0)
	d.owed += borrow
	return limb
}
