package detect_test

import (
	"math"
	"math/big"
	"math/rand"
	"slices"
	"testing"

	"cresset/api"
	"cresset/detect"
)

// refuses checks that every function that is given a curve refuses it.
func refuses(t *testing.T, what string, l []api.Bend) {
	t.Helper()
	if e := detect.CheckCurve(l); e != api.ErrArg {
		t.Errorf("CheckCurve of %s: error %d", what, e)
	}
	for _, ask := range []func([]api.Bend, api.Part) (api.Part, api.Errno){detect.Chance, detect.Slope, detect.Need} {
		for _, p := range []api.Part{of(0, 1), of(1, 2), of(7, 1)} {
			got, e := ask(l, p)
			is(t, what, got, e, api.Part{}, api.ErrArg)
		}
	}
	for _, covers := range [][]api.Part{nil, {of(1, 2)}} {
		p, e := detect.Miss(l, covers)
		is(t, "Miss by "+what, p, e, api.Part{}, api.ErrArg)
	}
}

// P6.3
func TestCheckCurve(t *testing.T) {
	none, one := of(0, 1), of(1, 1)
	for _, c := range []struct {
		what string
		l    []api.Bend
		want api.Errno
	}{
		{"nil", nil, api.ErrArg},
		{"no bends", []api.Bend{}, api.ErrArg},
		{"one bend", curve(none, none), api.ErrArg},
		{"two bends", straight(), api.OK},
		{"64 bends", arch(64), api.OK},
		{"65 bends", arch(65), api.ErrArg},
		{"a flat curve", curve(none, none, one, none, of(2, 1), none), api.OK},
		{"a flat end", curve(none, none, one, of(1, 2), of(2, 1), of(1, 2)), api.OK},
		{"a flat beginning", curve(none, none, one, none, of(2, 1), of(1, 2)), api.ErrArg},
		{"bends on a line", curve(none, none, one, of(1, 3), of(2, 1), of(2, 3)), api.OK},
		{"another one at 0", curve(none, none, none, none, one, one), api.ErrArg},
		{"a step at 0", curve(none, none, none, of(1, 2), one, one), api.ErrArg},
		{"a first coverage", curve(of(1, 9), none, one, one), api.ErrArg},
		{"a first chance", curve(none, of(1, 9), one, one), api.ErrArg},
		{"equal coverages", curve(none, none, one, of(1, 2), one, of(1, 2)), api.ErrArg},
		{"less coverage", curve(none, none, of(2, 1), of(1, 2), one, of(1, 2)), api.ErrArg},
		{"less chance", curve(none, none, one, of(1, 2), of(2, 1), of(1, 3)), api.ErrArg},
		{"less chance on a concave curve", curve(none, none, one, of(1, 2), of(2, 1), of(2, 3), of(3, 1), of(1, 2)), api.ErrArg},
		{"a chance above 1", curve(none, none, one, of(1000001, 1000000)), api.ErrArg},
		{"a chance above 1 between", curve(none, none, one, of(3, 2), of(2, 1), one), api.ErrArg},
		{"chances above 1", curve(none, none, one, of(3, 2), of(2, 1), of(8, 5)), api.ErrArg},
		{"a greater slope", curve(none, none, one, of(1, 4), of(2, 1), of(3, 4)), api.ErrArg},
		{"an equal slope at the end", append(halving(t, 3), api.Bend{Cover: of(4, 1), Chance: one}), api.OK},
		{"a somewhat greater slope at the end", append(halving(t, 3), api.Bend{Cover: of(7, 2), Chance: one}), api.ErrArg},
		{"slopes that differ little", curve(none, none, of(1, 2), of(500000001, 1000000000), one, one), api.OK},
		{"slopes that differ little the other way", curve(none, none, of(1, 2), of(499999999, 1000000000), one, one), api.ErrArg},
		{"numbers of 18 digits", curve(none, none, part(nines(18), plus(nines(18), -1)), part(plus(nines(18), -1), nines(18))), api.OK},
		{"a coverage of 18 digits", curve(none, none, part(nines(18), "1"), one), api.OK},
		{"a coverage of 19 digits", curve(none, none, part(ten(18), "1"), one), api.ErrArg},
		{"a small coverage of 18 digits", curve(none, none, part("1", nines(18)), one), api.OK},
		{"a small coverage of 19 digits", curve(none, none, part("1", ten(18)), one), api.ErrArg},
		{"a chance of 18 digits", curve(none, none, one, part("1", nines(18))), api.OK},
		{"a chance of 19 digits", curve(none, none, one, part("1", ten(18))), api.ErrArg},
		{"a chance of 19 digits, twice", curve(none, none, one, part(ten(18), plus(ten(18), 1))), api.ErrArg},
		{"0 with another divisor", curve(part("0", "2"), none, one, one), api.ErrArg},
		{"0 as another chance", curve(none, part("0", "2"), one, one), api.ErrArg},
		{"not lowest terms", curve(none, none, part("2", "4"), one), api.ErrArg},
		{"not a chance in lowest terms", curve(none, none, one, part("2", "4")), api.ErrArg},
		{"a zero ahead", curve(none, none, part("01", "1"), one), api.ErrArg},
		{"no digits", curve(none, none, part("", "1"), one), api.ErrArg},
		{"a sign", curve(none, none, part("+1", "1"), one), api.ErrArg},
		{"no fraction", curve(none, none, one, api.Part{}), api.ErrArg},
		{"the divisor 0", curve(none, none, part("1", "0"), one), api.ErrArg},
		{"no bend", make([]api.Bend, 2), api.ErrArg},
		{"too many of no bend", make([]api.Bend, 100000), api.ErrArg},
	} {
		if c.want != api.OK {
			refuses(t, c.what, c.l)
		} else if e := detect.CheckCurve(c.l); e != api.OK {
			t.Errorf("%s: error %d", c.what, e)
		}
	}
}

// isCurve is the chapter's text of what a valid curve is.
func isCurve(l []api.Bend) bool {
	if len(l) < 2 || len(l) > 64 {
		return false
	}
	var covers, chances []*big.Rat
	for _, b := range l {
		cover, chance := ratOf(b.Cover, 18), ratOf(b.Chance, 18)
		if cover == nil || chance == nil || chance.Cmp(big.NewRat(1, 1)) > 0 {
			return false
		}
		covers, chances = append(covers, cover), append(chances, chance)
	}
	if covers[0].Sign() != 0 || chances[0].Sign() != 0 {
		return false
	}
	for i := 1; i < len(l); i++ {
		if covers[i].Cmp(covers[i-1]) <= 0 || chances[i].Cmp(chances[i-1]) < 0 {
			return false
		}
	}
	for i := 2; i < len(l); i++ {
		if slopeFrom(covers, chances, i-1).Cmp(slopeFrom(covers, chances, i-2)) > 0 {
			return false
		}
	}
	return true
}

// slopeFrom returns the slope from a bend to the next one.
func slopeFrom(covers, chances []*big.Rat, i int) *big.Rat {
	rise := new(big.Rat).Sub(chances[i+1], chances[i])
	return rise.Quo(rise, new(big.Rat).Sub(covers[i+1], covers[i]))
}

// bent returns a curve with one fraction that is another one.
func bent(random *rand.Rand, l []api.Bend) []api.Bend {
	changed := slices.Clone(l)
	i := random.Intn(len(l))
	p := &changed[i].Cover
	if random.Intn(2) > 0 {
		p = &changed[i].Chance
	}
	r := ratOf(*p, api.MaxShort)
	change := []*big.Rat{big.NewRat(1, 1e9), big.NewRat(1, 7), big.NewRat(2, 1)}[random.Intn(3)]
	if random.Intn(2) > 0 && r.Cmp(change) >= 0 {
		*p = partOf(r.Sub(r, change))
	} else {
		*p = partOf(r.Add(r, change))
	}
	return changed
}

// P6.3
func TestCheckCurveOfSome(t *testing.T) {
	random := rand.New(rand.NewSource(63))
	var curves [2]int
	for range 3000 {
		l := someCurve(random, 9)
		if e := detect.CheckCurve(l); e != api.OK || !isCurve(l) {
			t.Fatalf("CheckCurve of %v: error %d", l, e)
		}
		l = bent(random, l)
		if isCurve(l) {
			curves[1]++
			if e := detect.CheckCurve(l); e != api.OK {
				t.Fatalf("CheckCurve of %v: error %d", l, e)
			}
		} else {
			curves[0]++
			refuses(t, "a bent curve", l)
		}
	}
	if min(curves[0], curves[1]) < 300 {
		t.Errorf("only %v curves", curves)
	}
}

// P6.3
func TestHalving(t *testing.T) {
	for _, n := range []int{0, -1, 41, math.MinInt, math.MaxInt} {
		if l, e := detect.Halving(n); len(l) != 0 || e != api.ErrArg {
			t.Errorf("Halving of %d: %v, error %d", n, l, e)
		}
	}
	if l := halving(t, 2); !slices.Equal(l, curve(of(0, 1), of(0, 1), of(1, 1), of(1, 2), of(2, 1), of(3, 4))) {
		t.Errorf("Halving of 2: %v", l)
	}
	for n := 1; n <= api.MaxHalving; n++ {
		l := halving(t, n)
		if len(l) != n+1 || detect.CheckCurve(l) != api.OK {
			t.Fatalf("Halving of %d: %v", n, l)
		}
		for k, b := range l {
			if want := (api.Bend{Cover: of(int64(k), 1), Chance: of(1<<k-1, 1<<k)}); b != want {
				t.Errorf("Halving of %d: %v at %d, want %v", n, b, k, want)
			}
		}
	}
}
