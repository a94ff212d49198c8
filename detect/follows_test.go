package detect_test

import (
	"math/big"
	"math/rand"
	"slices"
	"testing"

	"cresset/api"
	"cresset/detect"
)

// P6.5
func TestMemory(t *testing.T) {
	rows := []api.Sight{sight(1, 2, 0, 5, 500), sight(1, 2, 0, 3, 800), sight(0, 2, 0, 3, 700)}
	l := halving(t, 3)
	covers := []api.Part{of(3, 2), of(1, 2), of(7, 1)}
	keptRows, keptL, keptCovers := slices.Clone(rows), slices.Clone(l), slices.Clone(covers)
	detect.CheckTable(rows)
	detect.Width(rows, 1, 2, 0, 4)
	detect.CheckCurve(l)
	detect.Chance(l, covers[0])
	detect.Slope(l, covers[0])
	detect.Need(l, covers[1])
	detect.Miss(l, covers)
	if !slices.Equal(rows, keptRows) || !slices.Equal(l, keptL) || !slices.Equal(covers, keptCovers) {
		t.Errorf("the arguments became %v, %v, %v", rows, l, covers)
	}
	again := halving(t, 3)
	clear(l)
	if !slices.Equal(again, keptL) || !slices.Equal(halving(t, 3), keptL) {
		t.Error("two results share memory")
	}
}

// P6.6
func TestChancesRise(t *testing.T) {
	random := rand.New(rand.NewSource(67))
	must := must(t)
	for range 1500 {
		l := someCurve(random, 9)
		c := []*big.Rat{someCover(random, l), someCover(random, l), someCover(random, l)}
		slices.SortFunc(c, (*big.Rat).Cmp)
		var p []*big.Rat
		for _, cover := range c {
			p = append(p, must(detect.Chance(l, partOf(cover))))
		}
		if p[0].Cmp(p[1]) > 0 || p[1].Cmp(p[2]) > 0 || p[2].Cmp(big.NewRat(1, 1)) > 0 {
			t.Errorf("the chances of %v by %v are %v", c, l, p)
		}
		if c[0].Cmp(c[2]) == 0 {
			continue
		}
		line := new(big.Rat).Sub(p[2], p[0])
		line.Quo(line, new(big.Rat).Sub(c[2], c[0]))
		if slope := must(detect.Slope(l, partOf(c[0]))); slope.Cmp(line) < 0 {
			t.Errorf("the slope at %v by %v is %v, but more coverage brings %v", c[0], l, slope, line)
		}
		line.Mul(line, new(big.Rat).Sub(c[1], c[0]))
		if p[1].Cmp(line.Add(line, p[0])) < 0 {
			t.Errorf("the chances of %v by %v are %v: not concave", c, l, p)
		}
	}
}

// P6.6
func TestEffortThatIsParted(t *testing.T) {
	random := rand.New(rand.NewSource(68))
	must := must(t)
	for range 1000 {
		l := someCurve(random, 9)
		a, b := someCover(random, l), someCover(random, l)
		one := must(detect.Chance(l, partOf(new(big.Rat).Add(a, b))))
		two := new(big.Rat).Add(must(detect.Chance(l, partOf(a))), must(detect.Chance(l, partOf(b))))
		if two.Cmp(one) < 0 {
			t.Errorf("%v and %v find %v by %v, on one cell %v", a, b, two, l, one)
		}
	}
}

// P6.6
func TestInverse(t *testing.T) {
	random := rand.New(rand.NewSource(69))
	must := must(t)
	equal := 0
	for range 1500 {
		l := someCurve(random, 9)
		chance := someBetween(random, ratOf(l[len(l)-1].Chance, api.MaxShort))
		if got := must(detect.Chance(l, partOf(must(detect.Need(l, partOf(chance)))))); got.Cmp(chance) != 0 {
			t.Errorf("the chance of what %v needs by %v is %v", chance, l, got)
		}
		cover := someCover(random, l)
		got := must(detect.Need(l, partOf(must(detect.Chance(l, partOf(cover))))))
		top := must(detect.Need(l, l[len(l)-1].Chance))
		if cover.Cmp(top) > 0 {
			cover = top // behind it the curve is flat
		} else {
			equal++
		}
		if got.Cmp(cover) != 0 {
			t.Errorf("what the chance of %v needs by %v is %v", cover, l, got)
		}
	}
	if equal < 500 {
		t.Errorf("only %d", equal)
	}
}

// P6.6
func TestMoreSearches(t *testing.T) {
	random := rand.New(rand.NewSource(70))
	must := must(t)
	for range 500 {
		l := someCurve(random, 5)
		var covers []api.Part
		before := big.NewRat(1, 1)
		for range 1 + random.Intn(6) {
			covers = append(covers, partOf(someCover(random, l)))
			left := must(detect.Miss(l, covers))
			if left.Cmp(before) > 0 {
				t.Errorf("one more search of %v by %v misses %v, not %v", covers, l, left, before)
			}
			before = left
		}
		random.Shuffle(len(covers), func(i, k int) { covers[i], covers[k] = covers[k], covers[i] })
		if left := must(detect.Miss(l, covers)); left.Cmp(before) != 0 {
			t.Errorf("in another order %v by %v misses %v, not %v", covers, l, left, before)
		}
	}
}
