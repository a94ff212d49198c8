package weight

import "cresset/api"

// sureBits is a number of bits that no number with more than MaxDigits digits has so few of, since 2^3.321 is less than 10.
const sureBits = api.MaxDigits * 3321 / 1000

// ratio is a fraction in lowest terms that fits.
type ratio struct{ num, den natural }

// attempt returns what work returns, or ErrRange if a fraction on the way does not fit: nothing but fitting panics in this package.
func attempt[T any](work func() T) (result T, e api.Errno) {
	defer func() {
		if recover() != nil {
			e = api.ErrRange
		}
	}()
	return work(), api.OK
}

// fitting returns r, and panics if it does not fit.
func fitting(r ratio) ratio {
	if !fits(r.num) || !fits(r.den) {
		panic(api.ErrRange)
	}
	return r
}

// fits reports whether n has at most MaxDigits digits.
func fits(n natural) bool {
	return n.bitLength() <= sureBits || len(n.digits()) <= api.MaxDigits
}

func zero() ratio {
	return ratio{den: ofWord(1)}
}

func one() ratio {
	return ratio{num: ofWord(1), den: ofWord(1)}
}

// lowest returns num / den, whether it fits or not; den is not 0.
func lowest(num, den natural) ratio {
	divisor := gcd(num, den)
	return ratio{num.over(divisor), den.over(divisor)}
}

// open returns the ratio of a fraction, or ErrArg unless it is valid.
func open(p api.Part) (ratio, api.Errno) {
	if !isNat(p.Num) || !isNat(p.Den) || p.Den == "0" {
		return ratio{}, api.ErrArg
	}
	r := ratio{parse(string(p.Num)), parse(string(p.Den))}
	if !gcd(r.num, r.den).isOne() {
		return ratio{}, api.ErrArg
	}
	return r, api.OK
}

// openBoth returns the ratios of two fractions, or ErrArg unless they are valid.
func openBoth(a, b api.Part) (x, y ratio, e api.Errno) {
	x, e = open(a)
	if e != api.OK {
		return ratio{}, ratio{}, e
	}
	y, e = open(b)
	if e != api.OK {
		return ratio{}, ratio{}, e
	}
	return x, y, api.OK
}

// part returns r as a fraction.
func (r ratio) part() api.Part {
	return api.Part{Num: api.Nat(r.num.digits()), Den: api.Nat(r.den.digits())}
}

// compare returns -1, 0 or 1 as r is less than, equal to, or greater than s.
func (r ratio) compare(s ratio) int {
	return r.num.times(s.den).compare(s.num.times(r.den))
}

// plus returns r + s; it panics if that does not fit.
func (r ratio) plus(s ratio) ratio {
	return r.combine(s, natural.plus)
}

// minus returns r - s, for an s that is not above r; it panics if that does not fit.
func (r ratio) minus(s ratio) ratio {
	return r.combine(s, natural.minus)
}

// combine returns the sum or the difference of r and s, as with does it to numerators over the same denominator.
func (r ratio) combine(s ratio, with func(n, m natural) natural) ratio {
	// Only what both denominators have in common can be cancelled, so no divisor of their product has to be found.
	common := gcd(r.den, s.den)
	a, b := r.den.over(common), s.den.over(common)
	rest := lowest(with(r.num.times(b), s.num.times(a)), common)
	return fitting(ratio{rest.num, rest.den.times(a).times(b)})
}

// times returns r times s; it panics if that does not fit.
func (r ratio) times(s ratio) ratio {
	a, b := lowest(r.num, s.den), lowest(s.num, r.den)
	return fitting(ratio{a.num.times(b.num), a.den.times(b.den)})
}

// over returns r divided by s, which is not 0; it panics if that does not fit.
func (r ratio) over(s ratio) ratio {
	return r.times(ratio{s.den, s.num})
}
