package weight_test

import (
	"math/big"
	"math/rand"
	"strings"
	"testing"

	"cresset/api"
	"cresset/weight"
)

// most is the greatest natural number that is valid.
var most = strings.Repeat("9", api.MaxDigits)

// ten returns the digits of a power of ten.
func ten(zeros int) string {
	return "1" + strings.Repeat("0", zeros)
}

// part returns the fraction with these digits, valid or not.
func part(num, den string) api.Part {
	return api.Part{Num: api.Nat(num), Den: api.Nat(den)}
}

// whole returns the fraction of an integer with these digits.
func whole(digits string) api.Part {
	return part(digits, "1")
}

// of returns a fraction in lowest terms.
func of(a, b int64) api.Part {
	return partOf(big.NewRat(a, b))
}

// parts returns the fractions of some integers.
func parts(numbers ...int64) []api.Part {
	var l []api.Part
	for _, n := range numbers {
		l = append(l, of(n, 1))
	}
	return l
}

// partOf returns the fraction of r, whether it fits or not.
func partOf(r *big.Rat) api.Part {
	return part(r.Num().String(), r.Denom().String())
}

func ratOf(p api.Part) *big.Rat {
	r, _ := new(big.Rat).SetString(string(p.Num) + "/" + string(p.Den))
	return r
}

// fits reports whether r has at most MaxDigits digits above and below.
func fits(r *big.Rat) bool {
	return len(r.Num().String()) <= api.MaxDigits && len(r.Denom().String()) <= api.MaxDigits
}

// power returns base to some exponent.
func power(base, exponent int64) string {
	return new(big.Int).Exp(big.NewInt(base), big.NewInt(exponent), nil).String()
}

// plus returns the digits of a number and n.
func plus(digits string, n int64) string {
	sum, _ := new(big.Int).SetString(digits, 10)
	return sum.Add(sum, big.NewInt(n)).String()
}

// mulText returns the digits of a product.
func mulText(a, b string) string {
	x, _ := new(big.Int).SetString(a, 10)
	y, _ := new(big.Int).SetString(b, 10)
	return x.Mul(x, y).String()
}

// someNumber returns a number with up to so many digits: of any kind, or one that is near a power of two, where limbs are full or empty.
func someNumber(random *rand.Rand, digits int) *big.Int {
	limit, _ := new(big.Int).SetString(ten(1+random.Intn(digits)), 10)
	n := new(big.Int).Rand(random, limit)
	if random.Intn(3) > 0 {
		return n
	}
	n.Lsh(big.NewInt(1), uint(random.Intn(limit.BitLen())))
	n.Add(n, big.NewInt(random.Int63n(3)-1))
	if random.Intn(2) > 0 {
		n.Sub(n, new(big.Int).Lsh(big.NewInt(1), uint(random.Intn(n.BitLen()+1))))
	}
	return n.Abs(n).Mod(n, limit)
}

// some returns a fraction whose numbers have up to so many digits.
func some(random *rand.Rand, digits int) api.Part {
	den := someNumber(random, digits)
	if den.Sign() == 0 {
		den.SetInt64(1)
	}
	return partOf(new(big.Rat).SetFrac(someNumber(random, digits), den))
}

// someList returns a list of n fractions.
func someList(random *rand.Rand, n, digits int) []api.Part {
	l := make([]api.Part, n)
	for i := range l {
		l[i] = some(random, digits)
	}
	return l
}

// is checks a fraction and an error.
func is(t *testing.T, what string, got api.Part, e api.Errno, want api.Part, wantError api.Errno) {
	t.Helper()
	if got != want || e != wantError {
		t.Errorf("%s: %.80q, error %d; want %.80q, error %d", what, got, e, want, wantError)
	}
}

// must returns the fraction of a call that has no error.
func must(t *testing.T) func(p api.Part, e api.Errno) api.Part {
	return func(p api.Part, e api.Errno) api.Part {
		t.Helper()
		if e != api.OK || weight.Check(p) != api.OK {
			t.Fatalf("%.80q, error %d", p, e)
		}
		return p
	}
}
