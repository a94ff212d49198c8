package care_test

import (
	"math/rand"
	"slices"
	"testing"

	"cresset/api"
	"cresset/care"
)

// good is an evacuation that just has nothing against it.
func good() api.Winch {
	return api.Winch{Hover: 12000, Swing: 4000, Cable: 16000, Load: 250, MostLoad: 250, Wind: 20, MostWind: 20, Period: 7}
}

// winchNumbers are the numbers of an evacuation.
func winchNumbers(w *api.Winch) []*int {
	return []*int{&w.Hover, &w.Swing, &w.Cable, &w.Load, &w.MostLoad, &w.Wind, &w.MostWind, &w.Period}
}

// P11.2
func TestLift(t *testing.T) {
	most := api.MaxForces
	for _, c := range []struct {
		name string
		w    api.Winch
		want []int
	}{
		{"an example", api.Winch{Hover: 10000, Swing: 4000, Cable: 12000, Period: 4}, facts(1, 4, 5)},
		{"nothing", good(), nil},
		{"all zeros", api.Winch{Period: 1}, nil},
		{"all", api.Winch{Swing: most, Load: 1, Wind: 1, Period: 1}, facts(1, 2, 3, 4, 5)},
		{"the greatest numbers", api.Winch{Hover: most, Swing: most, Cable: most, Load: most, MostLoad: most, Wind: most, MostWind: most, Period: most}, facts(1, 4)},
		{"a cable too short", changed(good(), func(w *api.Winch) { w.Cable-- }), facts(1)},
		{"a hover too high", changed(good(), func(w *api.Winch) { w.Hover++ }), facts(1)},
		{"a load too great", changed(good(), func(w *api.Winch) { w.Load++ }), facts(2)},
		{"a winch too weak", changed(good(), func(w *api.Winch) { w.MostLoad-- }), facts(2)},
		{"a wind too strong", changed(good(), func(w *api.Winch) { w.Wind++ }), facts(3)},
		{"a wind too strong for it", changed(good(), func(w *api.Winch) { w.MostWind-- }), facts(3)},
		{"a hover too low", changed(good(), func(w *api.Winch) { w.Hover-- }), facts(4)},
		{"a swing too great for the hover", changed(good(), func(w *api.Winch) { w.Cable, w.Swing = 20000, 4001 }), facts(4)},
		{"a deck as fast as it may be", api.Winch{Hover: most, Swing: 7000, Cable: most, Period: 11}, facts(1)},
		{"a deck too fast by its swing", api.Winch{Hover: 90000, Swing: 7001, Cable: most, Period: 11}, facts(5)},
		{"a deck not too fast", api.Winch{Hover: 90000, Swing: 7000, Cable: most, Period: 11}, nil},
		{"a deck too fast by its period", api.Winch{Hover: 90000, Swing: 7000, Cable: most, Period: 10}, facts(5)},
		{"a deck that is slow enough, not by pi", api.Winch{Hover: 90000, Swing: 636, Cable: most, Period: 1}, nil},
		{"a deck that is not", api.Winch{Hover: 90000, Swing: 637, Cable: most, Period: 1}, facts(5)},
		{"two", changed(good(), func(w *api.Winch) { w.Wind, w.Load = most, most }), facts(2, 3)},
	} {
		if l, e := care.Lift(c.w); !slices.Equal(l, c.want) || e != api.OK {
			t.Errorf("%s: %v, error %d", c.name, l, e)
		}
	}
}

// P11.2
func TestLiftErrors(t *testing.T) {
	check := func(w api.Winch) {
		t.Helper()
		if l, e := care.Lift(w); len(l) > 0 || e != api.ErrArg {
			t.Errorf("%+v: %v, error %d", w, l, e)
		}
	}
	for i := range winchNumbers(&api.Winch{}) {
		for _, n := range outside(0, api.MaxForces) {
			check(changed(good(), func(w *api.Winch) { *winchNumbers(w)[i] = n }))
		}
		w := changed(good(), func(w *api.Winch) { *winchNumbers(w)[i] = api.MaxForces })
		if _, e := care.Lift(w); e != api.OK {
			t.Errorf("%+v: error %d", w, e)
		}
	}
	check(changed(good(), func(w *api.Winch) { w.Period = 0 }))
	check(api.Winch{})
}

// P11.2
func TestLiftIsAsTheChapterSays(t *testing.T) {
	random := rand.New(rand.NewSource(1))
	seen := map[int]int{}
	for range 50000 {
		var w api.Winch
		most := 1 + random.Intn(1<<random.Intn(17))
		for _, n := range winchNumbers(&w) {
			*n = random.Intn(most + 1)
		}
		w.Cable = min(w.Hover+w.Swing+random.Intn(3)-1, api.MaxForces)
		w.Period = max(1, min(22*w.Swing/14000+random.Intn(3)-1, api.MaxForces))
		if random.Intn(2) == 0 {
			w.Hover = min(max(0, 3*w.Swing+random.Intn(3)-1), api.MaxForces)
		}
		w.Cable = max(0, w.Cable)
		l, e := care.Lift(w)
		if !slices.Equal(l, modelLift(w)) || e != api.OK {
			t.Fatalf("%+v: %v, error %d", w, l, e)
		}
		for _, n := range l {
			seen[n]++
		}
	}
	for n := 1; n <= 5; n++ {
		if seen[n] < 1000 || seen[n] > 49000 {
			t.Errorf("%d was against %d", n, seen[n])
		}
	}
}
