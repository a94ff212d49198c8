package grid_test

import (
	"math/rand"
	"slices"
	"testing"

	"cresset/api"
	"cresset/grid"
)

// havePlace returns the region of the cells that have a place for which a condition holds.
func havePlace(g api.Grid, holds func(s api.Spot) bool) []api.Run {
	return chosen(g, func(c api.Cell) bool {
		return slices.ContainsFunc(places(g, c), holds)
	})
}

// P3.4
func TestBox(t *testing.T) {
	spot := func(x, y int) api.Spot { return api.Spot{X: x, Y: y} }
	for _, c := range []struct {
		low, high api.Spot
		want      []api.Run
	}{
		{spot(0, 0), spot(0, 0), cell(0, 0)},
		{spot(9, 9), spot(10, 9), []api.Run{{Y: 0, From: 0, To: 2}}},
		{spot(10, 10), spot(19, 19), cell(1, 1)},
		{spot(-place, 29), spot(place, place), []api.Run{{Y: 2, From: 0, To: 4}}},
		{spot(-place, -place), spot(place, place), []api.Run{{Y: 0, To: 4}, {Y: 1, To: 4}, {Y: 2, To: 4}}},
		{spot(40, 0), spot(50, 10), nil},
		{spot(-5, 0), spot(-1, 10), nil},
		{spot(0, 30), spot(50, 40), nil},
		{spot(0, -3), spot(50, -1), nil},
		{spot(39, 29), spot(39, 29), cell(3, 2)},
	} {
		if r := must(t)(grid.Box(example(), c.low, c.high)); !equal(r, c.want) {
			t.Errorf("%v to %v: %v", c.low, c.high, r)
		}
	}
	for _, c := range [][2]api.Spot{{spot(1, 0), spot(0, 0)}, {spot(0, 1), spot(0, 0)}, {spot(0, 0), spot(5, -1)}} {
		if r, e := grid.Box(example(), c[0], c[1]); !isNothing(r, e, api.ErrArg) {
			t.Errorf("%v: %v, %v", c, r, e)
		}
	}
	for _, s := range wrongSpots {
		for _, c := range [][2]api.Spot{{s, s}, {s, spot(place, place)}, {spot(-place, -place), s}} {
			if r, e := grid.Box(example(), c[0], c[1]); !isNothing(r, e, api.ErrArg) {
				t.Errorf("%v: %v, %v", c, r, e)
			}
		}
	}
	random := rand.New(rand.NewSource(12))
	for range 3000 {
		g := someGrid(random)
		low := someSpot(random, g)
		high := spot(low.X+random.Intn(3*g.Size), low.Y+random.Intn(3*g.Size))
		want := havePlace(g, func(s api.Spot) bool {
			return low.X <= s.X && s.X <= high.X && low.Y <= s.Y && s.Y <= high.Y
		})
		if r := must(t)(grid.Box(g, low, high)); !equal(r, want) {
			t.Fatalf("%v to %v in %v: %v", low, high, g, r)
		}
	}
}

// P3.4, P3.8
func TestDisc(t *testing.T) {
	about := api.Spot{X: 5, Y: 5}
	for _, c := range []struct {
		s      api.Spot
		radius int
		want   []api.Run
	}{
		{about, 0, cell(0, 0)},
		{about, 4, cell(0, 0)},
		{about, 5, []api.Run{{Y: 0, From: 0, To: 2}, {Y: 1, From: 0, To: 1}}},
		{about, 7, []api.Run{{Y: 0, From: 0, To: 2}, {Y: 1, From: 0, To: 1}}},
		{about, 8, []api.Run{{Y: 0, From: 0, To: 2}, {Y: 1, From: 0, To: 2}}},
		{about, place, []api.Run{{Y: 0, To: 4}, {Y: 1, To: 4}, {Y: 2, To: 4}}},
		{api.Spot{X: -3, Y: -4}, 4, nil},
		{api.Spot{X: -3, Y: -4}, 5, cell(0, 0)},
		{api.Spot{X: 42, Y: 33}, 4, nil},
		{api.Spot{X: 42, Y: 33}, 5, cell(3, 2)},
		{api.Spot{X: place, Y: place}, 10, nil},
		{api.Spot{X: -place, Y: 0}, place, []api.Run{{Y: 0, From: 0, To: 1}}},
		{api.Spot{X: -place, Y: 0}, place - 1, nil},
	} {
		if r := must(t)(grid.Disc(example(), c.s, c.radius)); !equal(r, c.want) {
			t.Errorf("%d about %v: %v", c.radius, c.s, r)
		}
	}
	for _, radius := range []int{-1, place + 1, big, small} {
		if r, e := grid.Disc(example(), about, radius); !isNothing(r, e, api.ErrArg) {
			t.Errorf("%d: %v, %v", radius, r, e)
		}
	}
	for _, s := range wrongSpots {
		if r, e := grid.Disc(example(), s, 5); !isNothing(r, e, api.ErrArg) {
			t.Errorf("%v: %v, %v", s, r, e)
		}
	}
	random := rand.New(rand.NewSource(13))
	for range 3000 {
		g := someGrid(random)
		center, radius := someSpot(random, g), random.Intn(5*g.Size)
		want := havePlace(g, func(s api.Spot) bool {
			return (s.X-center.X)*(s.X-center.X)+(s.Y-center.Y)*(s.Y-center.Y) <= radius*radius
		})
		if r := must(t)(grid.Disc(g, center, radius)); !equal(r, want) {
			t.Fatalf("%d about %v in %v: %v", radius, center, g, r)
		}
	}
}

// P3.4, P3.8
func TestHalf(t *testing.T) {
	spot := func(x, y int) api.Spot { return api.Spot{X: x, Y: y} }
	all := []api.Run{{Y: 0, To: 4}, {Y: 1, To: 4}, {Y: 2, To: 4}}
	for _, c := range []struct {
		a, b api.Spot
		want []api.Run
	}{
		{spot(0, 15), spot(1, 15), []api.Run{{Y: 1, To: 4}, {Y: 2, To: 4}}},
		{spot(0, 19), spot(1, 19), []api.Run{{Y: 1, To: 4}, {Y: 2, To: 4}}},
		{spot(0, 20), spot(1, 20), []api.Run{{Y: 2, To: 4}}},
		{spot(1, 10), spot(0, 10), []api.Run{{Y: 0, To: 4}, {Y: 1, To: 4}}},
		{spot(1, 9), spot(0, 9), []api.Run{{Y: 0, To: 4}}},
		{spot(10, 0), spot(10, 1), []api.Run{{Y: 0, To: 2}, {Y: 1, To: 2}, {Y: 2, To: 2}}},
		{spot(9, -5), spot(9, 1), []api.Run{{Y: 0, To: 1}, {Y: 1, To: 1}, {Y: 2, To: 1}}},
		{spot(30, 1), spot(30, 0), []api.Run{{Y: 0, From: 3, To: 4}, {Y: 1, From: 3, To: 4}, {Y: 2, From: 3, To: 4}}},
		{spot(0, -1), spot(1, -1), all},
		{spot(0, 30), spot(1, 30), nil},
		{spot(place, 0), spot(place, -place), nil},
		{spot(-place, -place), spot(place, place), []api.Run{{Y: 0, From: 0, To: 1}, {Y: 1, From: 0, To: 2}, {Y: 2, From: 0, To: 3}}},
		{spot(place, place), spot(-place, -place), []api.Run{{Y: 0, To: 4}, {Y: 1, From: 1, To: 4}, {Y: 2, From: 2, To: 4}}},
	} {
		if r := must(t)(grid.Half(example(), c.a, c.b)); !equal(r, c.want) {
			t.Errorf("from %v to %v: %v", c.a, c.b, r)
		}
	}
	if r, e := grid.Half(example(), spot(3, 3), spot(3, 3)); !isNothing(r, e, api.ErrArg) {
		t.Error(r, e)
	}
	for _, s := range wrongSpots {
		for _, c := range [][2]api.Spot{{s, {}}, {{X: 1, Y: 1}, s}} {
			if r, e := grid.Half(example(), c[0], c[1]); !isNothing(r, e, api.ErrArg) {
				t.Errorf("%v: %v, %v", c, r, e)
			}
		}
	}
	random := rand.New(rand.NewSource(14))
	for range 5000 {
		g := someGrid(random)
		a, b := someSpot(random, g), someSpot(random, g)
		if a == b {
			continue
		}
		want := havePlace(g, func(s api.Spot) bool {
			return (b.X-a.X)*(s.Y-a.Y)-(b.Y-a.Y)*(s.X-a.X) >= 0
		})
		if r := must(t)(grid.Half(g, a, b)); !equal(r, want) {
			t.Fatalf("from %v to %v in %v: %v", a, b, g, r)
		}
	}
}

// P3.5
func TestHull(t *testing.T) {
	if low, high, e := grid.Hull(example(), []api.Run{{Y: 1, From: 2, To: 4}, {Y: 2, From: 1, To: 2}}); low != (api.Spot{X: 10, Y: 10}) || high != (api.Spot{X: 39, Y: 29}) || e != api.OK {
		t.Error(low, high, e)
	}
	for _, r := range [][]api.Run{nil, {}} {
		if low, high, e := grid.Hull(example(), r); low != (api.Spot{}) || high != (api.Spot{}) || e != api.ErrNone {
			t.Error(low, high, e)
		}
	}
	random := rand.New(rand.NewSource(15))
	for range 3000 {
		g := someGrid(random)
		r := someRegion(random, g)
		if len(r) == 0 {
			continue
		}
		wantLow, wantHigh := api.Spot{X: big, Y: big}, api.Spot{X: -big, Y: -big}
		for c := range setOf(r) {
			for _, s := range places(g, c) {
				wantLow = api.Spot{X: min(wantLow.X, s.X), Y: min(wantLow.Y, s.Y)}
				wantHigh = api.Spot{X: max(wantHigh.X, s.X), Y: max(wantHigh.Y, s.Y)}
			}
		}
		if low, high, e := grid.Hull(g, r); low != wantLow || high != wantHigh || e != api.OK {
			t.Fatalf("%v in %v: %v, %v, %v", r, g, low, high, e)
		}
	}
}
