package weight_test

import (
	"math/rand"
	"slices"
	"testing"

	"cresset/api"
	"cresset/weight"
)

// P1.7
func TestMemory(t *testing.T) {
	a, b := []api.Part{of(1, 2), of(1, 3), of(1, 6)}, []api.Part{of(1, 5), of(2, 5), of(3, 5)}
	keptA, keptB := slices.Clone(a), slices.Clone(b)
	share, _ := weight.Share(a)
	after, _, _ := weight.Update(a, b)
	order, _ := weight.Rank(a)
	shareAgain, afterAgain, orderAgain := slices.Clone(share), slices.Clone(after), slices.Clone(order)
	weight.Sum(a)
	weight.Mean(a, b)
	weight.Cover(a, of(1, 2))
	if !slices.Equal(a, keptA) || !slices.Equal(b, keptB) {
		t.Errorf("the arguments became %q, %q", a, b)
	}
	clear(share)
	clear(after)
	clear(order)
	if !slices.Equal(a, keptA) || !slices.Equal(b, keptB) {
		t.Error("a result has memory of an argument")
	}
	again, e := weight.Share(a)
	areParts(t, "Share again", again, e, shareAgain, api.OK)
	again, _, e = weight.Update(a, b)
	areParts(t, "Update again", again, e, afterAgain, api.OK)
	orders, e := weight.Rank(a)
	areIndices(t, "Rank again", orders, e, orderAgain, api.OK)
}

// P1.8
func TestLawsOfArithmetic(t *testing.T) {
	random := rand.New(rand.NewSource(7))
	must := must(t)
	for range 500 {
		a, b, c := some(random, 90), some(random, 90), some(random, 90)
		for _, do := range []binary{weight.Add, weight.Mul} {
			if must(do(a, b)) != must(do(b, a)) || must(do(must(do(a, b)), c)) != must(do(a, must(do(b, c)))) {
				t.Errorf("the order of %q, %q, %q matters", a, b, c)
			}
		}
		if must(weight.Mul(a, must(weight.Add(b, c)))) != must(weight.Add(must(weight.Mul(a, b)), must(weight.Mul(a, c)))) {
			t.Errorf("%q is not distributed over %q, %q", a, b, c)
		}
		if must(weight.Sub(must(weight.Add(a, b)), b)) != a {
			t.Errorf("%q is not as it was, plus and minus %q", a, b)
		}
		if b.Num != "0" && (must(weight.Div(must(weight.Mul(a, b)), b)) != a || must(weight.Mul(must(weight.Div(a, b)), b)) != a) {
			t.Errorf("%q is not as it was, times and by %q", a, b)
		}
		if weight.Compare(a, of(1, 1)) <= 0 && must(weight.Not(must(weight.Not(a)))) != a {
			t.Errorf("%q is not what is left of what is left of it", a)
		}
	}
}

// P1.8
func TestLawsOfEvidence(t *testing.T) {
	random := rand.New(rand.NewSource(8))
	must := must(t)
	for range 200 {
		n := 1 + random.Intn(6)
		prior, first, second := someList(random, n, 12), someList(random, n, 12), someList(random, n, 12)
		var both []api.Part
		for i := range first {
			both = append(both, must(weight.Mul(first[i], second[i])))
		}
		once, evidence, e := weight.Update(prior, both)
		if e == api.ErrNone {
			continue
		}
		half, one, f := weight.Update(prior, first)
		twice, two, g := weight.Update(half, second)
		if e != api.OK || f != api.OK || g != api.OK || !slices.Equal(once, twice) || must(weight.Mul(one, two)) != evidence {
			t.Errorf("two pieces of evidence: %q, not %q", twice, once)
		}
		if must(weight.Sum(once)) != of(1, 1) {
			t.Errorf("the sum of %q is not 1", once)
		}
	}
}

// P1.8
func TestSumOfShares(t *testing.T) {
	random := rand.New(rand.NewSource(9))
	must := must(t)
	for range 200 {
		l := someList(random, 1+random.Intn(6), 25)
		shares, e := weight.Share(l)
		if e == api.ErrNone {
			continue
		}
		if must(weight.Sum(shares)) != of(1, 1) {
			t.Errorf("the sum of the shares of %q is not 1", l)
		}
		for i := range l {
			if must(weight.Mul(l[i], shares[0])) != must(weight.Mul(shares[i], l[0])) {
				t.Errorf("the shares of %q have other ratios", l)
			}
		}
	}
}

// P1.8
func TestFewestOfCover(t *testing.T) {
	random := rand.New(rand.NewSource(10))
	for range 300 {
		l := someList(random, random.Intn(7), 2)
		p := some(random, 2)
		fewest, e := len(l)+1, api.ErrNone
		for set := range 1 << len(l) {
			var chosen []api.Part
			for i := range l {
				if set>>i&1 > 0 {
					chosen = append(chosen, l[i])
				}
			}
			if sum, _ := weight.Sum(chosen); weight.Compare(sum, p) >= 0 && len(chosen) < fewest {
				fewest, e = len(chosen), api.OK
			}
		}
		if e != api.OK {
			fewest = 0
		}
		if n, f := weight.Cover(l, p); n != fewest || f != e {
			t.Errorf("%q covers %q with %d, error %d; want %d, error %d", l, p, n, f, fewest, e)
		}
	}
}
