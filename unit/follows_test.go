package unit_test

import (
	"math/rand"
	"reflect"
	"slices"
	"testing"

	"cresset/api"
	"cresset/unit"
)

// P9.9: a unit can always go home.
func TestHome(t *testing.T) {
	random := rand.New(rand.NewSource(9))
	for range 2000 {
		u, start, l, sky, legs := somePlan(random)
		for _, leg := range legs {
			home := leg.Leave + modelTime(u, leg.To, u.Base)
			if left := leftAt(t, u, legs, leg.Leave) - modelBurns(u, home-leg.Leave); left < u.Reserve {
				t.Fatalf("behind %v, and the way home, %d is left of %+v", leg, left, u)
			}
			if len(l) > 0 && home-start > u.Hours {
				t.Fatalf("from %v it is home at %d, not within %d from %d on", leg, home, u.Hours, start)
			}
		}
		if last := legs[len(legs)-1]; last.To != u.Base || last.Leave != last.Arrive || len(legs) != len(l)+1 {
			t.Fatalf("%v does not end at home", legs)
		}
		for _, f := range sky {
			for _, leg := range legs {
				if len(l) > 0 && (f.Sea > u.Sea || f.Wind > u.Wind) && modelConcerns(f, leg.From, leg.To, leg.Start, leg.Leave) {
					t.Fatalf("%+v is too bad for %+v in %v", f, u, leg)
				}
			}
		}
	}
}

// P9.11
func TestLeftFalls(t *testing.T) {
	random := rand.New(rand.NewSource(10))
	for range 500 {
		u, start, _, _, legs := somePlan(random)
		last := u.Fuel
		for time := start; time <= legs[len(legs)-1].Leave; time++ {
			n := leftAt(t, u, legs, time)
			if n > last || n < u.Reserve {
				t.Fatalf("%d is left at %d of %v, after %d", n, time, legs, last)
			}
			last = n
		}
	}
}

// P9.11: a plan that is made again at the end of a leg is what was planned.
func TestAgainIsTheSame(t *testing.T) {
	random := rand.New(rand.NewSource(11))
	for range 2000 {
		u, _, l, sky, legs := somePlan(random)
		for i := range l {
			next, at, why, e := unit.Again(u, legs, legs[i].Leave, l[i+1:], sky)
			if !slices.Equal(next, legs[i+1:]) || at != -1 || why != 0 || e != api.OK {
				t.Fatalf("after %d of %v: %v, %d, %d, error %v", i, legs, next, at, why, e)
			}
		}
	}
}

// P9.2, P9.5, P9.6, P9.8: arguments stay, results are their own.
func TestMemory(t *testing.T) {
	u, l, sky := heron(), route(10), []api.Front{storm(99), {Sea: 100}}
	legs := planOf(t, u, 100, l, sky)
	units, starts, goals := unitsAt(0, 10, 20), []int{1, 2, 3}, goalsAt(20, 11)
	boxes, _ := unit.Boxes(u, legs, 3)
	all := func() []any {
		return []any{slices.Clone(l), slices.Clone(sky), slices.Clone(legs), slices.Clone(units), slices.Clone(starts), slices.Clone(goals), slices.Clone(boxes)}
	}
	before := all()
	for name, call := range map[string]func() (any, func()){
		"Plan":   func() (any, func()) { r, _, _, _ := unit.Plan(u, 100, l, sky); return r, func() { clear(r) } },
		"Again":  func() (any, func()) { r, _, _, _ := unit.Again(u, legs, 410, l, sky); return r, func() { clear(r) } },
		"home":   func() (any, func()) { r, _, _, _ := unit.Again(u, legs, 410, nil, sky); return r, func() { clear(r) } },
		"Boxes":  func() (any, func()) { r, _ := unit.Boxes(u, legs, 3); return r, func() { clear(r) } },
		"Assign": func() (any, func()) { r, _ := unit.Assign(units, starts, goals); return r, func() { clear(r) } },
		"the others": func() (any, func()) {
			unit.CheckWeather(sky)
			unit.Where(legs, 200)
			unit.Left(u, legs, 200)
			unit.Clash(boxes, boxes)
			return nil, func() {}
		},
	} {
		want, _ := call()
		if name != "the others" && reflect.ValueOf(want).Len() == 0 {
			t.Errorf("%s: nothing", name)
		}
		other, wipe := call()
		if !reflect.DeepEqual(want, other) {
			t.Errorf("%s: %v, then %v", name, want, other)
		}
		wipe()
		if got, _ := call(); !reflect.DeepEqual(got, want) {
			t.Errorf("%s: %v becomes %v", name, want, got)
		}
		if !reflect.DeepEqual(all(), before) {
			t.Errorf("%s has changed its arguments", name)
		}
	}
}
