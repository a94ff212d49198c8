package belief_test

import (
	"math/big"
	"math/rand"
	"reflect"
	"slices"
	"testing"

	"cresset/api"
	"cresset/belief"
)

// callAll calls all functions, and returns their results.
func callAll(b api.Belief, l []api.Mass, notices []api.Notice, steps int, p api.Part) []any {
	var results []any
	keep := func(l ...any) { results = append(results, l...) }
	keep(belief.Check(b), belief.CheckNotice(b, notices[0]))
	begun, e := belief.Begin(b)
	keep(begun, e)
	after, e := belief.Predict(b, l)
	keep(after, e)
	learned, evidence, e := belief.Learn(b, l, notices[0])
	keep(learned, evidence, e)
	filtered, left, e := belief.Filter(b, notices, steps)
	keep(filtered, left, e)
	smoothed, e := belief.Smooth(b, notices, steps)
	for _, masses := range smoothed {
		keep(masses)
	}
	keep(len(smoothed), e)
	scenes, e := belief.Scenes(b, l)
	keep(scenes, e)
	cells, e := belief.Cells(b, l)
	keep(cells, e)
	region, e := belief.Likely(b, l, p)
	keep(region, e)
	return results
}

// spoil changes all that a result holds, and what memory it has left.
func spoil(result any) {
	switch r := result.(type) {
	case []api.Mass:
		clear(r[:cap(r)])
	case []api.Part:
		clear(r[:cap(r)])
	case []api.Share:
		clear(r[:cap(r)])
	case []api.Run:
		clear(r[:cap(r)])
	}
}

// P12.7
func TestMemory(t *testing.T) {
	random := rand.New(rand.NewSource(127))
	for i := range 200 {
		b, notices, steps := someStory(random, []int64{2, 12}[i%2])
		notices = append(notices, notice(0, of(1, 2), of(1, 1), run(0, 0, 1)), notice(steps, of(1, 1), of(1, 1)))
		l := append([]api.Mass{mass(0, -1, -1, of(1, 3))}, slices.DeleteFunc(someMasses(random, b, 9), func(m api.Mass) bool { return m.Scene == 0 && m.Cell == away })...)
		keptBelief, keptNotices, keptMasses := copyOf(b), copyOfNotices(notices), slices.Clone(l)
		first := callAll(b, l, notices, steps, of(1, 3))
		kept := callAll(copyOf(b), slices.Clone(l), copyOfNotices(notices), steps, of(1, 3))
		if !reflect.DeepEqual(first, kept) {
			t.Fatalf("equal arguments have different results: %s, %s", brief(first), brief(kept))
		}
		for k, result := range first {
			spoil(result)
			if k+1 < len(first) && !reflect.DeepEqual(first[k+1:], kept[k+1:]) {
				t.Fatalf("results share memory: %s, not %s", brief(first[k+1:]), brief(kept[k+1:]))
			}
		}
		if !reflect.DeepEqual(b, keptBelief) || !reflect.DeepEqual(notices, keptNotices) || !slices.Equal(l, keptMasses) {
			t.Fatalf("the arguments became %v, %v, %v", b, notices, l)
		}
		if again := callAll(b, l, notices, steps, of(1, 3)); !reflect.DeepEqual(again, kept) {
			t.Fatalf("the same arguments have other results: %s, not %s", brief(again), brief(kept))
		}
	}
}

// sumOf returns the sum of masses.
func sumOf(l []api.Mass) *big.Rat {
	all := new(big.Rat)
	for _, m := range l {
		all.Add(all, ratOf(m.Weight))
	}
	return all
}

// way is a way of an object, from time to time, and its chance.
type way struct {
	places []spot
	chance *big.Rat
}

// ways returns all ways of an object for so many steps: a scene, a cell to begin with, and a stride at each step.
func ways(b api.Belief, steps int) []way {
	m, all := model{b}, new(big.Rat)
	var l []way
	for n, s := range b.Scenes {
		cells := new(big.Rat)
		for _, c := range s.Start {
			cells.Add(cells, ratOf(c.Weight))
		}
		all.Add(all, ratOf(s.Weight))
		for _, c := range s.Start {
			chance := new(big.Rat).Mul(ratOf(s.Weight), ratOf(c.Weight))
			l = append(l, way{[]spot{{n, c.Cell}}, chance.Quo(chance, cells)})
		}
	}
	for i := range l {
		l[i].chance.Quo(l[i].chance, all)
	}
	for range steps {
		var longer []way
		for _, w := range l {
			from := w.places[len(w.places)-1]
			if m.stays(from) {
				longer = append(longer, way{append(slices.Clone(w.places), from), w.chance})
				continue
			}
			for _, s := range b.Scenes[from.scene].Strides {
				longer = append(longer, way{append(slices.Clone(w.places), m.leads(from, s)), new(big.Rat).Mul(w.chance, ratOf(s.Chance))})
			}
		}
		l = longer
	}
	return l
}

// posterior returns the masses at each time, by all ways and all that they meet, and the chance of all that was noticed.
func posterior(b api.Belief, notices []api.Notice, steps int) (times [][]api.Mass, left *big.Rat) {
	m := model{b}
	shares := make([]map[spot]*big.Rat, steps+1)
	for t := range shares {
		shares[t] = map[spot]*big.Rat{}
	}
	left = new(big.Rat)
	for _, w := range ways(b, steps) {
		chance := new(big.Rat).Set(w.chance)
		for _, n := range notices {
			chance.Mul(chance, m.factor(n, w.places[n.Time]))
		}
		left.Add(left, chance)
		for t, p := range w.places {
			if shares[t][p] == nil {
				shares[t][p] = new(big.Rat)
			}
			shares[t][p].Add(shares[t][p], chance)
		}
	}
	for t := range shares {
		var l []api.Mass
		for p := range places(b) {
			if share := shares[t][p]; share != nil && share.Sign() > 0 {
				l = append(l, api.Mass{Scene: p.scene, Cell: p.cell, Weight: partOf(share.Quo(share, left))})
			}
		}
		times = append(times, l)
	}
	return times, left
}

// P12.8: the weights are those of the exact posterior.
func TestPosterior(t *testing.T) {
	random := rand.New(rand.NewSource(128))
	impossible := 0
	for i := range 400 {
		b, notices, steps := someStory(random, []int64{2, 12, 999}[i%3])
		times, left := posterior(b, notices, steps)
		if left.Sign() == 0 {
			refusesStory(t, "what cannot be", b, notices, steps, api.ErrNone)
			impossible++
			continue
		}
		smoothed, e := belief.Smooth(b, notices, steps)
		areTimes(t, "Smooth", smoothed, e, times, api.OK)
		isFilter(t, "the posterior", b, notices, steps, times[steps], partOf(left), api.OK)
		for _, l := range smoothed {
			if sumOf(l).Cmp(big.NewRat(1, 1)) != 0 {
				t.Errorf("the sum of %v is not 1", l)
			}
		}
	}
	if impossible < 20 || impossible > 300 {
		t.Errorf("%d stories cannot be", impossible)
	}
}

// P12.8: masses have the sum 1, or that of the masses before.
func TestMassesKeepTheirSum(t *testing.T) {
	random := rand.New(rand.NewSource(129))
	for range 300 {
		b := someBelief(random, 99)
		l, e := belief.Begin(b)
		if e != api.OK || sumOf(l).Cmp(big.NewRat(1, 1)) != 0 {
			t.Fatalf("Begin: %v, error %d", l, e)
		}
		before := someMasses(random, b, 99)
		after, e := belief.Predict(b, before)
		if e != api.OK || sumOf(before).Cmp(sumOf(after)) != 0 {
			t.Fatalf("Predict of %v: %v, error %d", before, after, e)
		}
		l, left, e := belief.Filter(b, nil, random.Intn(4))
		if e != api.OK || sumOf(l).Cmp(big.NewRat(1, 1)) != 0 || left != of(1, 1) {
			t.Fatalf("Filter: %v, left %v, error %d", l, left, e)
		}
	}
}

// P12.8: the order of notices with the same time makes no difference, nor does the order of times.
func TestOrderOfNotices(t *testing.T) {
	random := rand.New(rand.NewSource(130))
	for range 150 {
		b, notices, steps := someStory(random, 12)
		l, left, e := belief.Filter(b, notices, steps)
		times, smoothError := belief.Smooth(b, notices, steps)
		random.Shuffle(len(notices), func(i, k int) { notices[i], notices[k] = notices[k], notices[i] })
		isFilter(t, "shuffled", b, notices, steps, l, left, e)
		again, got := belief.Smooth(b, notices, steps)
		areTimes(t, "Smooth, shuffled", again, got, times, smoothError)
	}
}

// P12.8: a search in vain never raises a weight in its cells above what it was, divided by what is left; no weight elsewhere gets less.
func TestSearchInVain(t *testing.T) {
	random := rand.New(rand.NewSource(131))
	for range 300 {
		b := someBelief(random, 12)
		l, _ := belief.Begin(b)
		n := notice(0, someChance(random, 99), of(1, 1), someRegion(random, b.Sea)...)
		after, evidence, e := belief.Learn(b, l, n)
		if e == api.ErrNone {
			continue
		}
		words, now := model{b}, map[spot]*big.Rat{}
		for _, m := range after {
			now[spot{m.Scene, m.Cell}] = ratOf(m.Weight)
		}
		for _, m := range l {
			p := spot{m.Scene, m.Cell}
			got, most := now[p], new(big.Rat).Quo(ratOf(m.Weight), ratOf(evidence))
			if got == nil {
				got = new(big.Rat)
			}
			if got.Cmp(most) > 0 || words.factor(n, p).Cmp(big.NewRat(1, 1)) == 0 && got.Cmp(most) != 0 {
				t.Errorf("%v became %v by %v", m, got, n)
			}
		}
	}
}

// P12.8: a thing in one of three cells, missed by half of three searches of its cell (DOC.md, Examples, 9).
func TestThreeSearches(t *testing.T) {
	b := sea(3, 1, scene(of(1, 1), stays(), start(1, 0, of(1, 1))))
	l := slices.Repeat([]api.Notice{notice(0, of(1, 2), of(1, 1), run(0, 1, 2))}, 3)
	isFilter(t, "three searches", b, l, 0, []api.Mass{mass(0, 1, 0, of(1, 1))}, of(1, 8), api.OK)
}
