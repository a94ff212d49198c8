package detect_test

import (
	"math/big"
	"math/rand"
	"slices"
	"strings"
	"testing"

	"cresset/api"
	"cresset/detect"
)

// part returns the fraction with these digits, valid or not.
func part(num, den string) api.Part {
	return api.Part{Num: api.Nat(num), Den: api.Nat(den)}
}

// of returns a fraction in lowest terms.
func of(a, b int64) api.Part {
	return partOf(big.NewRat(a, b))
}

func partOf(r *big.Rat) api.Part {
	return part(r.Num().String(), r.Denom().String())
}

// ratOf returns the number of a fraction, and nil unless that is valid, with at most so many digits.
func ratOf(p api.Part, digits int) *big.Rat {
	if len(p.Num) > digits || len(p.Den) > digits {
		return nil
	}
	num, ok := new(big.Int).SetString(string(p.Num), 10)
	den, also := new(big.Int).SetString(string(p.Den), 10)
	if !ok || !also || num.Sign() < 0 || den.Sign() <= 0 {
		return nil
	}
	r := new(big.Rat).SetFrac(num, den)
	if partOf(r) != p {
		return nil
	}
	return r
}

// nines returns so many times the digit 9.
func nines(digits int) string {
	return strings.Repeat("9", digits)
}

// ten returns the digits of a power of ten.
func ten(zeros int) string {
	return "1" + strings.Repeat("0", zeros)
}

// plus returns the digits of a number and n.
func plus(digits string, n int64) string {
	sum, _ := new(big.Int).SetString(digits, 10)
	return sum.Add(sum, big.NewInt(n)).String()
}

// curve returns the bends whose coverage and chance come by turns.
func curve(numbers ...api.Part) []api.Bend {
	var l []api.Bend
	for pair := range slices.Chunk(numbers, 2) {
		l = append(l, api.Bend{Cover: pair[0], Chance: pair[1]})
	}
	return l
}

// straight is a curve on which a coverage up to 1 is its own chance.
func straight() []api.Bend {
	return curve(of(0, 1), of(0, 1), of(1, 1), of(1, 1))
}

// halving returns the curve of Halving.
func halving(t *testing.T, n int) []api.Bend {
	t.Helper()
	l, e := detect.Halving(n)
	if e != api.OK {
		t.Fatalf("Halving of %d has the error %d", n, e)
	}
	return l
}

// arch returns a curve with so many bends, at 0, 1, 2 and so on, whose chances come ever slower up to 1.
func arch(bends int) []api.Bend {
	var l []api.Bend
	last := int64(bends - 1)
	for k := range last + 1 {
		l = append(l, api.Bend{Cover: of(k, 1), Chance: of(2*last*k-k*k, last*last)})
	}
	return l
}

// someCurve returns a valid curve with up to so many bends; it may be flat at its end, and it may have bends on a line.
func someCurve(random *rand.Rand, bends int) []api.Bend {
	n := 1 + random.Intn(bends-1)
	slopes := make([]int64, n)
	for i := range slopes {
		slopes[i] = random.Int63n([]int64{3, 20, 1e7}[random.Intn(3)])
	}
	slices.Sort(slopes)
	slices.Reverse(slopes)
	wide := []int64{2, 9, 1e6}[random.Intn(3)]
	l := curve(of(0, 1), of(0, 1))
	var cover, chance int64
	covers, chances := []int64{}, []int64{}
	for _, s := range slopes {
		w := 1 + random.Int63n(wide)
		cover, chance = cover+w, chance+w*s
		covers, chances = append(covers, cover), append(chances, chance)
	}
	all := max(1, chance)
	if random.Intn(2) > 0 {
		all += random.Int63n(all + 3)
	}
	scale := 1 + random.Int63n(wide)
	for i := range n {
		l = append(l, api.Bend{Cover: of(covers[i], scale), Chance: of(chances[i], all)})
	}
	return l
}

// someBetween returns a fraction from 0 to most, which may be a bound.
func someBetween(random *rand.Rand, most *big.Rat) *big.Rat {
	parts := 1 + random.Int63n([]int64{3, 50, 1 << 60}[random.Intn(3)])
	share := big.NewRat(random.Int63n(parts+1), parts)
	return share.Mul(share, most)
}

// someLong returns a fraction below 1 whose numbers have up to so many digits.
func someLong(random *rand.Rand, digits int) *big.Rat {
	den, _ := new(big.Int).SetString(ten(digits-1), 10)
	den.Add(den, new(big.Int).Rand(random, den))
	return new(big.Rat).SetFrac(new(big.Int).Rand(random, den), den)
}

// someCover returns a coverage by a curve: that of a bend, one that is close to it, one between bends, or one behind the last bend.
func someCover(random *rand.Rand, l []api.Bend) *big.Rat {
	at := ratOf(l[random.Intn(len(l))].Cover, api.MaxShort)
	last := ratOf(l[len(l)-1].Cover, api.MaxShort)
	switch random.Intn(5) {
	case 0:
		return at
	case 1:
		return at.Add(at, big.NewRat(1, 1+random.Int63n(1<<60)))
	case 2:
		return last.Add(last, someBetween(random, big.NewRat(3, 1)))
	}
	return someBetween(random, last)
}

// must returns the fraction of a call that has no error.
func must(t *testing.T) func(p api.Part, e api.Errno) *big.Rat {
	return func(p api.Part, e api.Errno) *big.Rat {
		t.Helper()
		r := ratOf(p, api.MaxDigits)
		if e != api.OK || r == nil {
			t.Fatalf("%.80q, error %d", p, e)
		}
		return r
	}
}

// is checks a fraction and an error.
func is(t *testing.T, what string, got api.Part, e api.Errno, want api.Part, wantError api.Errno) {
	t.Helper()
	if got != want || e != wantError {
		t.Errorf("%s: %.80q, error %d; want %.80q, error %d", what, got, e, want, wantError)
	}
}
