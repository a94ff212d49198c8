package detect_test

import (
	"math/big"
	"math/rand"
	"slices"
	"strings"
	"testing"

	"cresset/api"
	"cresset/detect"
)

// ask is one of the functions that are given a curve and a fraction.
type ask = func(l []api.Bend, p api.Part) (api.Part, api.Errno)

// answer is what a function returns for a curve and a fraction.
type answer struct {
	l       []api.Bend
	p, want api.Part
	e       api.Errno
}

// answers checks what one of the functions returns.
func answers(t *testing.T, what string, do ask, l []answer) {
	t.Helper()
	for _, a := range l {
		got, e := do(a.l, a.p)
		is(t, what+" of "+string(a.p.Num)+"/"+string(a.p.Den), got, e, a.want, a.e)
	}
}

// notParts returns fractions that are not valid, or too long to be asked about.
func notParts() []api.Part {
	return []api.Part{
		{}, part("1", ""), part("", "1"), part("1", "0"), part("0", "0"), part("0", "2"), part("2", "4"), part("01", "2"), part("1", "02"), part("-1", "2"), part("1", "-2"),
		part("+1", "2"), part(" 1", "2"), part("1/2", "1"), part("0.5", "1"), part("a", "1"), part("\uff11", "1"),
		part(ten(300), "1"), part("1", ten(300)), part(nines(301), ten(300)), part(strings.Repeat("1", 601), "1"), part("1", strings.Repeat("1", 601)), part(strings.Repeat("0", 5000), "1"),
	}
}

// The greatest and the least fraction that can be asked about, and two that are next to 1.
var (
	greatest = part(nines(300), "1")
	least    = part("1", nines(300))
	below1   = part(plus(nines(300), -1), nines(300))
	above1   = part(nines(300), plus(nines(300), -1))
)

// flat returns a curve that is flat at its end.
func flat() []api.Bend {
	return curve(of(0, 1), of(0, 1), of(1, 3), of(1, 5), of(2, 1), of(1, 5))
}

// useless returns a curve by which nothing is found.
func useless() []api.Bend {
	return curve(of(0, 1), of(0, 1), of(1, 3), of(0, 1), of(2, 1), of(0, 1))
}

// P6.4
func TestChance(t *testing.T) {
	l := halving(t, 2)
	answers(t, "Chance", detect.Chance, []answer{
		{l, of(1, 2), of(1, 4), api.OK}, {l, of(3, 2), of(5, 8), api.OK}, {l, of(7, 1), of(3, 4), api.OK},
		{l, of(0, 1), of(0, 1), api.OK}, {l, of(1, 1), of(1, 2), api.OK}, {l, of(2, 1), of(3, 4), api.OK},
		{l, of(99, 100), of(99, 200), api.OK}, {l, of(101, 100), of(201, 400), api.OK}, {l, of(199, 100), of(299, 400), api.OK}, {l, of(201, 100), of(3, 4), api.OK},
		{flat(), of(1, 6), of(1, 10), api.OK}, {flat(), of(1, 3), of(1, 5), api.OK}, {flat(), of(1, 2), of(1, 5), api.OK}, {flat(), of(2, 1), of(1, 5), api.OK}, {flat(), of(9, 1), of(1, 5), api.OK},
		{useless(), of(0, 1), of(0, 1), api.OK}, {useless(), of(1, 2), of(0, 1), api.OK}, {useless(), of(5, 1), of(0, 1), api.OK},
		{l, greatest, of(3, 4), api.OK}, {straight(), greatest, of(1, 1), api.OK}, {straight(), least, least, api.OK}, {straight(), below1, below1, api.OK}, {straight(), above1, of(1, 1), api.OK},
		{l, least, part("1", plus("1"+nines(300), -1)), api.OK},
	})
	for _, p := range notParts() {
		answers(t, "Chance", detect.Chance, []answer{{l, p, api.Part{}, api.ErrArg}})
	}
}

// P6.4
func TestSlope(t *testing.T) {
	l := halving(t, 2)
	answers(t, "Slope", detect.Slope, []answer{
		{l, of(1, 2), of(1, 2), api.OK}, {l, of(1, 1), of(1, 4), api.OK}, {l, of(2, 1), of(0, 1), api.OK},
		{l, of(0, 1), of(1, 2), api.OK}, {l, of(99, 100), of(1, 2), api.OK}, {l, of(101, 100), of(1, 4), api.OK}, {l, of(199, 100), of(1, 4), api.OK}, {l, of(201, 100), of(0, 1), api.OK},
		{flat(), of(0, 1), of(3, 5), api.OK}, {flat(), of(1, 3), of(0, 1), api.OK}, {flat(), of(1, 2), of(0, 1), api.OK}, {flat(), of(2, 1), of(0, 1), api.OK},
		{useless(), of(0, 1), of(0, 1), api.OK}, {useless(), of(7, 1), of(0, 1), api.OK},
		{l, greatest, of(0, 1), api.OK}, {l, least, of(1, 2), api.OK}, {l, below1, of(1, 2), api.OK}, {l, above1, of(1, 4), api.OK}, {straight(), above1, of(0, 1), api.OK},
	})
	for _, p := range notParts() {
		answers(t, "Slope", detect.Slope, []answer{{l, p, api.Part{}, api.ErrArg}})
	}
}

// P6.4
func TestNeed(t *testing.T) {
	l := halving(t, 2)
	answers(t, "Need", detect.Need, []answer{
		{l, of(5, 8), of(3, 2), api.OK}, {l, of(4, 5), api.Part{}, api.ErrNone},
		{l, of(0, 1), of(0, 1), api.OK}, {l, of(1, 4), of(1, 2), api.OK}, {l, of(1, 2), of(1, 1), api.OK}, {l, of(3, 4), of(2, 1), api.OK}, {l, of(301, 400), api.Part{}, api.ErrNone},
		{l, of(1, 1), api.Part{}, api.ErrNone}, {l, of(7, 1), api.Part{}, api.ErrNone}, {l, greatest, api.Part{}, api.ErrNone},
		{flat(), of(1, 5), of(1, 3), api.OK}, {flat(), of(1, 10), of(1, 6), api.OK}, {flat(), of(201, 1000), api.Part{}, api.ErrNone}, {flat(), of(0, 1), of(0, 1), api.OK},
		{useless(), of(0, 1), of(0, 1), api.OK}, {useless(), of(1, 9), api.Part{}, api.ErrNone}, {useless(), least, api.Part{}, api.ErrNone},
		{straight(), least, least, api.OK}, {straight(), below1, below1, api.OK}, {straight(), of(1, 1), of(1, 1), api.OK}, {straight(), above1, api.Part{}, api.ErrNone},
	})
	for _, p := range notParts() {
		answers(t, "Need", detect.Need, []answer{{l, p, api.Part{}, api.ErrArg}})
	}
}

// tiny returns a fraction of 300 digits: one of some whose factors cancel out if they come one after another.
func tiny(n int64) api.Part {
	return part("1", plus(nines(300), -n))
}

// P6.4
func TestMiss(t *testing.T) {
	l := halving(t, 2)
	for _, c := range []struct {
		what   string
		l      []api.Bend
		covers []api.Part
		want   api.Part
		e      api.Errno
	}{
		{"the example", l, []api.Part{of(1, 1), of(1, 1)}, of(1, 4), api.OK},
		{"nil", l, nil, of(1, 1), api.OK},
		{"no search", l, []api.Part{}, of(1, 1), api.OK},
		{"a search without effort", l, []api.Part{of(0, 1)}, of(1, 1), api.OK},
		{"more than the curve has", l, []api.Part{of(7, 1)}, of(1, 4), api.OK},
		{"different ones", l, []api.Part{of(1, 2), of(3, 2)}, of(9, 32), api.OK},
		{"a sure find", straight(), []api.Part{of(1, 2), of(1, 1), of(1, 2)}, of(0, 1), api.OK},
		{"512 searches", l, slices.Repeat([]api.Part{of(1, 1)}, 512), partOf(new(big.Rat).SetFrac(big.NewInt(1), new(big.Int).Lsh(big.NewInt(1), 512))), api.OK},
		{"513 searches", l, slices.Repeat([]api.Part{of(1, 1)}, 513), api.Part{}, api.ErrArg},
		{"513 searches that find nothing", l, slices.Repeat([]api.Part{of(0, 1)}, 513), api.Part{}, api.ErrArg},
		{"what cancels out", straight(), []api.Part{tiny(0), tiny(1), tiny(2), tiny(3), tiny(4)}, part(plus(nines(300), -5), nines(300)), api.OK},
		{"what would cancel out later", straight(), []api.Part{tiny(0), tiny(2), tiny(4), tiny(1), tiny(3)}, api.Part{}, api.ErrRange},
		{"what does not fit, and a sure find", straight(), []api.Part{tiny(0), tiny(2), tiny(4), of(1, 1)}, api.Part{}, api.ErrRange},
		{"a sure find, and what does not fit", straight(), []api.Part{of(1, 1), tiny(0), tiny(2), tiny(4)}, of(0, 1), api.OK},
		{"what does not fit, and what is not valid", straight(), []api.Part{tiny(0), tiny(2), tiny(4), part("2", "4")}, api.Part{}, api.ErrArg},
		{"what is not valid behind a sure find", straight(), []api.Part{of(1, 1), part(ten(300), "1")}, api.Part{}, api.ErrArg},
	} {
		p, e := detect.Miss(c.l, c.covers)
		is(t, c.what, p, e, c.want, c.e)
	}
	for _, p := range notParts() {
		for _, covers := range [][]api.Part{{p}, {of(1, 1), p}, {p, of(1, 1)}} {
			got, e := detect.Miss(l, covers)
			is(t, "Miss of what is not valid", got, e, api.Part{}, api.ErrArg)
		}
	}
}

// P6.4: products with up to 600 digits fit, and those with more do not.
func TestMissThatJustFits(t *testing.T) {
	both := func(l []api.Bend, a, b api.Part) *big.Rat {
		return missOf(l, []api.Part{a, b})
	}
	p, e := detect.Miss(straight(), []api.Part{tiny(0), tiny(2)})
	if want := partOf(both(straight(), tiny(0), tiny(2))); len(want.Den) != api.MaxDigits {
		t.Errorf("%d digits", len(want.Den))
	} else {
		is(t, "600 digits", p, e, want, api.OK)
	}
	p, e = detect.Miss(halving(t, 1), []api.Part{tiny(0), tiny(2)})
	if want := partOf(both(halving(t, 1), tiny(0), tiny(2))); len(want.Den) != api.MaxDigits+1 {
		t.Errorf("%d digits", len(want.Den))
	}
	is(t, "601 digits", p, e, api.Part{}, api.ErrRange)
}

// numbersOf returns the coverages and the chances of a curve.
func numbersOf(l []api.Bend) (covers, chances []*big.Rat) {
	for _, b := range l {
		covers, chances = append(covers, ratOf(b.Cover, api.MaxShort)), append(chances, ratOf(b.Chance, api.MaxShort))
	}
	return covers, chances
}

// slopeOf is the chapter's text of the slope at a coverage.
func slopeOf(l []api.Bend, c *big.Rat) *big.Rat {
	covers, chances := numbersOf(l)
	if c.Cmp(covers[len(l)-1]) >= 0 {
		return new(big.Rat)
	}
	at := 0
	for i := range l {
		if covers[i].Cmp(c) <= 0 {
			at = i
		}
	}
	return slopeFrom(covers, chances, at)
}

// chanceOf is the chapter's text of the chance of a coverage.
func chanceOf(l []api.Bend, c *big.Rat) *big.Rat {
	covers, chances := numbersOf(l)
	last := len(l) - 1
	if c.Cmp(covers[last]) >= 0 {
		return chances[last]
	}
	for covers[last].Cmp(c) > 0 {
		last--
	}
	way := new(big.Rat).Sub(c, covers[last])
	return way.Add(chances[last], way.Mul(way, slopeOf(l, c)))
}

// missOf returns the chance that all searches miss, whether it fits or not.
func missOf(l []api.Bend, covers []api.Part) *big.Rat {
	left := big.NewRat(1, 1)
	for _, cover := range covers {
		factor := big.NewRat(1, 1)
		left.Mul(left, factor.Sub(factor, chanceOf(l, ratOf(cover, api.MaxDeep))))
	}
	return left
}

// fits reports whether r has at most MaxDigits digits above and below.
func fits(r *big.Rat) bool {
	p := partOf(r)
	return len(p.Num) <= api.MaxDigits && len(p.Den) <= api.MaxDigits
}

// P6.4
func TestChancesOfSome(t *testing.T) {
	random := rand.New(rand.NewSource(64))
	for i := range 3000 {
		l := someCurve(random, []int{3, 9, 9, 64}[i%4])
		c := someCover(random, l)
		p, e := detect.Chance(l, partOf(c))
		is(t, "Chance", p, e, partOf(chanceOf(l, c)), api.OK)
		p, e = detect.Slope(l, partOf(c))
		is(t, "Slope", p, e, partOf(slopeOf(l, c)), api.OK)
	}
}

// P6.4: a coverage that is needed has the chance, and no less coverage has it.
func TestNeedOfSome(t *testing.T) {
	random := rand.New(rand.NewSource(65))
	for i := range 3000 {
		l := someCurve(random, []int{3, 9, 9, 64}[i%4])
		last := ratOf(l[len(l)-1].Chance, api.MaxShort)
		chance := someBetween(random, last)
		c := must(t)(detect.Need(l, partOf(chance)))
		if chanceOf(l, c).Cmp(chance) != 0 {
			t.Fatalf("Need of %v by %v: %v", chance, l, c)
		}
		less := new(big.Rat).Mul(c, big.NewRat(1e9-1, 1e9))
		if c.Sign() > 0 && chanceOf(l, less).Cmp(chance) >= 0 {
			t.Fatalf("Need of %v by %v: %v, not the least one", chance, l, c)
		}
		more := partOf(last.Add(last, big.NewRat(1, 1+random.Int63n(1<<62))))
		answers(t, "Need", detect.Need, []answer{{l, more, api.Part{}, api.ErrNone}})
	}
}

// P6.4
func TestMissOfSome(t *testing.T) {
	random := rand.New(rand.NewSource(66))
	var done [5]int
	for range 600 {
		l := someCurve(random, 9)
		var covers []api.Part
		want, wantError := big.NewRat(1, 1), api.OK
		digits := 1 + random.Intn(100)
		for range random.Intn(12) {
			cover := someCover(random, l)
			covers = append(covers, partOf(cover.Mul(cover, someLong(random, digits))))
			if want = missOf(l, covers); !fits(want) {
				wantError = api.ErrRange
			}
		}
		p, e := detect.Miss(l, covers)
		done[e]++
		if wantError != api.OK {
			is(t, "Miss", p, e, api.Part{}, wantError)
		} else {
			is(t, "Miss", p, e, partOf(want), api.OK)
		}
	}
	if done[api.OK] < 100 || done[api.ErrRange] < 50 {
		t.Errorf("only %v", done)
	}
}

// P6.4: a curve with long numbers has answers for all long fractions, as none of these needs more than 600 digits.
func TestLongNumbers(t *testing.T) {
	short := func(less int64) string { return plus(nines(18), -less) }
	l := curve(of(0, 1), of(0, 1), part("1", short(0)), part("1", short(2)), part(short(4), short(5)), part(short(8), short(6)), part(short(10), "1"), part(short(1), short(0)))
	if e := detect.CheckCurve(l); e != api.OK || !isCurve(l) {
		t.Fatalf("CheckCurve: error %d", e)
	}
	for _, p := range []api.Part{least, below1, above1, greatest, part(plus(nines(300), -8), ten(299)), part(ten(299), plus(nines(300), -8)), part(nines(300), ten(283)), part(plus(nines(18), -1), nines(300)), tiny(7)} {
		c := ratOf(p, api.MaxDeep)
		answers(t, "Chance", detect.Chance, []answer{{l, p, partOf(chanceOf(l, c)), api.OK}})
		answers(t, "Slope", detect.Slope, []answer{{l, p, partOf(slopeOf(l, c)), api.OK}})
		if c.Cmp(ratOf(l[len(l)-1].Chance, api.MaxShort)) <= 0 {
			needed := must(t)(detect.Need(l, p))
			if chanceOf(l, needed).Cmp(c) != 0 {
				t.Errorf("Need of %.80q: %v", p, needed)
			}
		}
	}
}
