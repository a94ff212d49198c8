package unit_test

import (
	"math/rand"
	"testing"

	"cresset/api"
	"cresset/unit"
)

// P9.1
func TestCheckUnit(t *testing.T) {
	for _, u := range rightUnits() {
		if !unit.CheckUnit(u) {
			t.Errorf("%+v is not valid", u)
		}
	}
	for _, u := range wrongUnits() {
		if unit.CheckUnit(u) {
			t.Errorf("%+v is valid", u)
		}
	}
}

// P9.1
func TestCheckWeather(t *testing.T) {
	most := make([]api.Front, api.MaxSky)
	for _, l := range [][]api.Front{
		nil, {}, {{}}, {storm(0)}, {storm(latest), storm(3)}, most,
		{{From: 0, To: latest, Low: spot(-place, place), High: spot(-place, place), Sea: api.MaxForce, Wind: api.MaxForce}},
		{{From: 3, To: 3, Low: spot(2, 5), High: spot(3, 5)}, {Low: spot(5, -3), High: spot(5, -2)}},
	} {
		if !unit.CheckWeather(l) {
			t.Errorf("%+v is not valid", l)
		}
	}
	for _, l := range wrongSkies() {
		if unit.CheckWeather(l) {
			t.Errorf("%+v is valid", l)
		}
	}
}

// P9.1
func TestDistance(t *testing.T) {
	for _, c := range []struct {
		a, b api.Spot
		want int
	}{
		{spot(0, 0), spot(3, 4), 5},
		{spot(0, 0), spot(1, 1), 2},
		{spot(7, 8), spot(7, 8), 0},
		{spot(-3, 4), spot(0, 0), 5},
		{spot(0, -1), spot(0, 0), 1},
		{spot(0, 0), spot(3, 3), 5},
		{spot(0, 0), spot(0, 17), 17},
		{spot(-place, 0), spot(place, 0), 2 * place},
		{spot(-place, -place), spot(place, place), 47453133},
		{spot(place, -place), spot(-place, place-2), 47453132},
	} {
		for _, got := range [][2]api.Spot{{c.a, c.b}, {c.b, c.a}} {
			if n, e := unit.Distance(got[0], got[1]); n != c.want || e != api.OK {
				t.Errorf("from %v to %v: %d, error %v", got[0], got[1], n, e)
			}
		}
	}
	for _, wrong := range wrongSpots {
		for _, right := range append(rightSpots, wrong) {
			if n, e := unit.Distance(wrong, right); n != 0 || e != api.ErrArg {
				t.Errorf("from %v to %v: %d, error %v", wrong, right, n, e)
			}
			if n, e := unit.Distance(right, wrong); n != 0 || e != api.ErrArg {
				t.Errorf("from %v to %v: %d, error %v", right, wrong, n, e)
			}
		}
	}
}

// P9.1, P9.11
func TestDistances(t *testing.T) {
	random := rand.New(rand.NewSource(1))
	for range 5000 {
		most := 1 + random.Intn(1<<random.Intn(25))
		any := func() api.Spot { return spot(random.Intn(2*most+1)-most, random.Intn(2*most+1)-most) }
		way := func(a, b api.Spot) int {
			n, e := unit.Distance(a, b)
			if n != modelDistance(a, b) || e != api.OK {
				t.Fatalf("from %v to %v: %d, error %v", a, b, n, e)
			}
			return n
		}
		a, b, c := any(), any(), any()
		if way(a, c) > way(a, b)+way(b, c) {
			t.Errorf("from %v to %v is farther than by %v", a, c, b)
		}
	}
}
