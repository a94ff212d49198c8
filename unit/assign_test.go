package unit_test

import (
	"math/rand"
	"slices"
	"testing"

	"cresset/api"
	"cresset/unit"
)

// unitsAt returns units like heron, with their bases along x.
func unitsAt(bases ...int) []api.Unit {
	var l []api.Unit
	for _, x := range bases {
		l = append(l, changed(heron(), func(u *api.Unit) { u.Base.X = x }))
	}
	return l
}

// goalsAt returns goals along x.
func goalsAt(goals ...int) []api.Spot {
	var l []api.Spot
	for _, x := range goals {
		l = append(l, spot(x, 0))
	}
	return l
}

// P9.8
func TestAssign(t *testing.T) {
	slow := append(unitsAt(0), changed(heron(), func(u *api.Unit) { u.Speed = 1800 }))
	for _, c := range []struct {
		name   string
		l      []api.Unit
		starts []int
		goals  []api.Spot
		want   []int
	}{
		{"nothing", nil, nil, nil, nil},
		{"no goals", unitsAt(1, 2, 3), []int{0, 0, 0}, nil, nil},
		{"one", unitsAt(5), []int{7}, goalsAt(9), []int{0}},
		{"the nearer one", unitsAt(5, 8), []int{0, 0}, goalsAt(9), []int{1}},
		{"the earlier one", unitsAt(5, 8), []int{0, 5}, goalsAt(9), []int{0}},
		{"the first of two that are equal", unitsAt(5, 8), []int{0, 3}, goalsAt(9), []int{0}},
		{"the faster one", slow, []int{0, 0}, goalsAt(10), []int{0}},
		{"the faster one, too late", slow, []int{11, 0}, goalsAt(10), []int{1}},
		{"each to its own", unitsAt(100, 0, 50), []int{0, 0, 0}, goalsAt(0, 50, 100), []int{1, 2, 0}},
		{"the greatest time counts more than the sum", unitsAt(0, 10), []int{0, 0}, goalsAt(10, 20), []int{0, 1}},
		{"the sum counts more than the order", unitsAt(0, 10, 40), []int{0, 0, 100}, goalsAt(0, 11, 40), []int{0, 1, 2}},
		{"the sum decides", unitsAt(10, 10, 0), []int{50, 0, 0}, goalsAt(10, 60), []int{2, 1}},
		{"of several choices the first one", unitsAt(0, 0, 0), []int{0, 0, 0}, goalsAt(10, 10), []int{0, 1}},
		{"and the first one that is best", unitsAt(90, 0, 0, 0), []int{0, 0, 0, 0}, goalsAt(10, 10), []int{1, 2}},
		{"the same goal, in another order", unitsAt(30, 20, 10), []int{0, 0, 0}, goalsAt(0, 0, 0), []int{0, 1, 2}},
		{"six", unitsAt(0, 10, 20, 30, 40, 50), make([]int, 6), goalsAt(51, 41, 31, 21, 11, 1), []int{5, 4, 3, 2, 1, 0}},
		{"beyond the last time", []api.Unit{changed(heron(), func(u *api.Unit) { u.Speed, u.Base = 1, spot(-place, -place) }), changed(heron(), func(u *api.Unit) { u.Speed, u.Base = 2, spot(-place, -place) })}, []int{latest, latest}, []api.Spot{spot(place, place)}, []int{1}},
	} {
		if got, e := unit.Assign(c.l, c.starts, c.goals); !slices.Equal(got, c.want) || e != api.OK {
			t.Errorf("%s: %v, error %v", c.name, got, e)
		}
	}
}

// P9.8: fuel, hours and weather are not looked at.
func TestAssignLooksAtTimesAlone(t *testing.T) {
	weak := changed(heron(), func(u *api.Unit) { u.Fuel, u.Reserve, u.Hours, u.Sea, u.Wind, u.Burn = 0, 0, 0, 0, 0, api.MaxBurn })
	if got, e := unit.Assign([]api.Unit{changed(heron(), func(u *api.Unit) { u.Speed-- }), weak}, []int{0, 0}, goalsAt(place)); !slices.Equal(got, []int{1}) || e != api.OK {
		t.Errorf("%v, error %v", got, e)
	}
}

// P9.8
func TestAssignErrors(t *testing.T) {
	check := func(what string, l []api.Unit, starts []int, goals []api.Spot, want api.Errno) {
		t.Helper()
		if got, e := unit.Assign(l, starts, goals); len(got) > 0 || e != want {
			t.Errorf("%s: %v, error %v", what, got, e)
		}
	}
	two, seven, sevenGoals := unitsAt(1, 2), unitsAt(1, 2, 3, 4, 5, 6, 7), goalsAt(1, 2, 3, 4, 5, 6, 7)
	check("too many units", seven, make([]int, 7), goalsAt(1), api.ErrLong)
	check("too many units, and no starts", seven, nil, goalsAt(1), api.ErrLong)
	check("too many goals", two, make([]int, 2), sevenGoals, api.ErrLong)
	check("too many of both", seven, make([]int, 7), sevenGoals, api.ErrLong)
	check("many more", make([]api.Unit, 3000), nil, make([]api.Spot, 3000), api.ErrLong)
	check("too few starts", two, []int{1}, goalsAt(1), api.ErrArg)
	check("no starts", two, nil, goalsAt(1), api.ErrArg)
	check("too many starts", two, make([]int, 3), goalsAt(1), api.ErrArg)
	check("starts of no units", nil, make([]int, 1), nil, api.ErrArg)
	check("far too many starts", two, make([]int, 3000), goalsAt(1), api.ErrArg)
	check("too many goals for the units", two, make([]int, 2), goalsAt(1, 2, 3), api.ErrArg)
	check("a goal for no unit", nil, nil, goalsAt(1), api.ErrArg)
	for _, u := range wrongUnits() {
		check("a wrong unit", []api.Unit{heron(), u}, make([]int, 2), goalsAt(1), api.ErrArg)
		check("a wrong unit without goals", []api.Unit{u}, make([]int, 1), nil, api.ErrArg)
		check("a wrong unit, and too many goals", []api.Unit{u}, make([]int, 1), sevenGoals, api.ErrLong)
	}
	for _, s := range wrongSpots {
		check("a wrong goal", two, make([]int, 2), []api.Spot{{}, s}, api.ErrArg)
		check("a wrong goal, and too many", two, make([]int, 2), append(slices.Clone(sevenGoals), s), api.ErrLong)
	}
	for _, n := range outside(latest) {
		check("a wrong start", two, []int{0, n}, goalsAt(1), api.ErrArg)
		check("a wrong start without goals", two, []int{n, 0}, nil, api.ErrArg)
		check("a wrong start, and too many units", seven, []int{n}, nil, api.ErrLong)
	}
}

// choices hands out all lists, so long, of different numbers below n.
func choices(n, long int, yield func([]int)) {
	var list []int
	var add func()
	add = func() {
		if len(list) == long {
			yield(list)
			return
		}
		for i := n - 1; i >= 0; i-- { // not in the order that counts
			if !slices.Contains(list, i) {
				list = append(list, i)
				add()
				list = list[:len(list)-1]
			}
		}
	}
	add()
}

// P9.8
func TestAssignByTheText(t *testing.T) {
	random := rand.New(rand.NewSource(8))
	for range 3000 {
		units, most := 1+random.Intn(api.MaxTeam), 1+random.Intn(60)
		near := func() api.Spot { return spot(random.Intn(most), random.Intn(most)) }
		var l []api.Unit
		var starts []int
		var goals []api.Spot
		for range units {
			l = append(l, changed(heron(), func(u *api.Unit) { u.Speed, u.Base = 1800*(1+random.Intn(3)), near() }))
			starts = append(starts, random.Intn(most))
		}
		for range random.Intn(units + 1) {
			goals = append(goals, near())
		}
		var best, bestKey []int
		choices(units, len(goals), func(which []int) {
			key := []int{0, 0}
			for i, n := range which {
				time := starts[n] + modelTime(l[n], l[n].Base, goals[i])
				key = []int{max(key[0], time), key[1] + time}
			}
			key = append(key, which...)
			if bestKey == nil || slices.Compare(key, bestKey) < 0 {
				best, bestKey = slices.Clone(which), key
			}
		})
		if got, e := unit.Assign(l, starts, goals); !slices.Equal(got, best) || e != api.OK {
			t.Fatalf("%v from %v to %v: %v, error %v, not %v", l, starts, goals, got, e, best)
		}
	}
}
