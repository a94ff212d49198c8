package tracks_test

import (
	"math/rand"
	"slices"
	"testing"

	"cresset/api"
	"cresset/tracks"
)

// P8.2
func TestNear(t *testing.T) {
	up, down := track(0, 0, 4, 4), track(0, 4, 4, 0)
	along, across := track(2, 3, 8, 3), track(3, 8, 3, 2)
	for _, c := range []struct {
		l     []api.Spot
		s     api.Spot
		width int
		want  bool
	}{
		{up, spot(4, 0), 2, false},
		{up, spot(4, 0), 3, true},
		{up, spot(2, 2), 0, true},
		{up, spot(4, 4), 0, true},
		{up, spot(5, 5), 0, false},
		{up, spot(5, 5), 1, false},
		{up, spot(5, 5), 2, true},
		{up, spot(7, 8), 4, false},
		{up, spot(7, 8), 5, true},
		{up, spot(-3, -4), 4, false},
		{up, spot(-3, -4), 5, true},
		{up, spot(1, 0), 0, false},
		{up, spot(1, 0), 1, true},
		{up, spot(-1, 1), 1, false},
		{up, spot(-1, 1), 2, true},
		{down, spot(4, 4), 2, false},
		{down, spot(4, 4), 3, true},
		{down, spot(1, 3), 0, true},
		{down, spot(-3, 8), 4, false},
		{down, spot(-3, 8), 5, true},
		{along, spot(5, 3), 0, true},
		{along, spot(5, 4), 0, false},
		{along, spot(5, 0), 2, false},
		{along, spot(5, 0), 3, true},
		{along, spot(8, 0), 3, true},
		{along, spot(12, 6), 4, false},
		{along, spot(12, 6), 5, true},
		{along, spot(-1, 0), 4, false},
		{along, spot(-1, 0), 5, true},
		{across, spot(3, 5), 0, true},
		{across, spot(0, 8), 2, false},
		{across, spot(0, 8), 3, true},
		{across, spot(6, 12), 4, false},
		{across, spot(6, 12), 5, true},
		{track(0, 0, 4, 0, 4, 9), spot(6, 9), 2, true},
		{track(0, 0, 4, 0, 4, 9), spot(0, 2), 2, true},
		{track(0, 0, 4, 0, 4, 9), spot(0, 3), 2, false},
		{track(-place, -place, -place+1, -place), spot(place, place), api.MaxLook, false},
		{track(0, 0, 1, 0), spot(-api.MaxLook, 0), api.MaxLook, true},
		{track(0, 0, 1, 0), spot(-api.MaxLook, 1), api.MaxLook, false},
		{track(0, 0, 1, 0), spot(-api.MaxLook-1, 0), api.MaxLook, false},
		{track(-place, -place, place, place), spot(741455, -741455), api.MaxLook, true},
		{track(-place, -place, place, place), spot(741455, -741456), api.MaxLook, false},
		{track(-place, place, place, -place), spot(place, place), api.MaxLook, false},
	} {
		for _, l := range [][]api.Spot{c.l, backwards(c.l)} {
			if got, e := tracks.Near(l, c.s, c.width); got != c.want || e != api.OK {
				t.Errorf("%v within %d of %v: %v, error %v", c.s, c.width, l, got, e)
			}
		}
	}
}

// P8.2: against rational numbers.
func TestNearOfMany(t *testing.T) {
	random := rand.New(rand.NewSource(3))
	for range 20000 {
		size := 1 << random.Intn(22)
		if random.Intn(2) == 0 {
			size = 5
		}
		l, width := someTrack(random, size), min(random.Intn(1+size), api.MaxLook)
		s := spot(random.Intn(3*size)-size, random.Intn(3*size)-size)
		if got := near(t, l, s, width); got != isNearTrack(l, s, width) {
			t.Fatalf("%v within %d of %v: %v", s, width, l, got)
		}
	}
}

// P8.2
func TestNearRefuses(t *testing.T) {
	right := track(0, 0, 4, 4)
	check := func(l []api.Spot, s api.Spot, width int) {
		t.Helper()
		if got, e := tracks.Near(l, s, width); got || e != api.ErrArg {
			t.Errorf("%v within %d of %v: %v, error %v", s, width, l, got, e)
		}
	}
	for _, l := range wrongTracks() {
		check(l, spot(0, 0), 3)
	}
	for _, s := range wrongSpots {
		check(right, s, 3)
	}
	for _, width := range []int{-1, api.MaxLook + 1, huge, small} {
		check(right, spot(0, 0), width)
	}
}

// P8.2
func TestCovers(t *testing.T) {
	g := api.Grid{W: 3, H: 3, Size: 10}
	land := api.Grid{W: 3, H: 3, Size: 10, Land: rows(g, 1, 3)}
	middle, corner := []api.Run{{Y: 1, From: 1, To: 2}}, []api.Run{{Y: 0, From: 0, To: 1}}
	for _, c := range []struct {
		what  string
		g     api.Grid
		l     []api.Spot
		width int
		want  []api.Run
	}{
		{"the example's row", g, track(0, 15, 30, 15), 5, rows(g, 1, 2)},
		{"the example's all", g, track(0, 15, 30, 15), 15, rows(g, 0, 3)},
		{"a row's lower side is too far", g, track(0, 15, 30, 15), 4, nil},
		{"a row's upper side only", g, track(0, 14, 30, 14), 5, rows(g, 1, 2)},
		{"the upper row, not the lower one", g, track(0, 15, 30, 15), 14, rows(g, 1, 3)},
		{"one more makes all", g, track(0, 14, 30, 14), 15, rows(g, 0, 3)},
		{"land too", land, track(0, 15, 30, 15), 5, rows(g, 1, 2)},
		{"a leg that ends early", g, track(10, 15, 19, 15), 5, middle},
		{"a leg that ends too early", g, track(15, 15, 16, 15), 6, nil},
		{"a disc about the middle", g, track(14, 14, 15, 15), 7, middle},
		{"a disc that is too small", g, track(14, 14, 15, 15), 6, nil},
		{"a column", g, track(5, 0, 5, 40), 5, []api.Run{{Y: 0, To: 1}, {Y: 1, To: 1}, {Y: 2, To: 1}}},
		{"a diagonal", g, track(0, 0, 9, 9), 7, corner},
		{"a diagonal that is too far", g, track(0, 0, 9, 9), 6, nil},
		{"another diagonal", g, track(9, 0, 0, 9), 7, corner},
		{"from outside", g, track(-100, -100, 9, 9), 7, corner},
		{"elsewhere", g, track(-100, -100, -50, -50), 7, nil},
		{"two legs cover no cell together", g, track(0, 12, 30, 12, 30, 17, 0, 17), 5, nil},
		{"two legs cover two rows", g, track(0, 5, 30, 5, 30, 25, 0, 25), 5, []api.Run{{Y: 0, To: 3}, {Y: 2, To: 3}}},
		{"cells of 1 m", api.Grid{W: 4, H: 4, Size: 1}, track(0, 1, 2, 3), 0, []api.Run{{Y: 1, To: 1}, {Y: 2, From: 1, To: 2}, {Y: 3, From: 2, To: 3}}},
		{"the widest look", api.Grid{W: 256, H: 1, Size: 50000}, track(0, 0, 5, 5), api.MaxLook, []api.Run{{Y: 0, To: 20}}},
		{"the greatest cell, in one look", api.Grid{W: 1, H: 1, Size: 50000}, track(0, 0, 49999, 49999), 35355, rows(api.Grid{W: 1}, 0, 1)},
		{"the greatest cell, in one look that is too short", api.Grid{W: 1, H: 1, Size: 50000}, track(0, 0, 49999, 49999), 35354, nil},
	} {
		for _, l := range [][]api.Spot{c.l, backwards(c.l)} {
			if r, e := tracks.Covers(c.g, l, c.width); !slices.Equal(r, c.want) || e != api.OK {
				t.Errorf("%s: %v, error %v", c.what, r, e)
			}
		}
	}
}

// coveredCells returns the cells for which one leg has all of some places within its width.
func coveredCells(g api.Grid, l []api.Spot, width int, some func(g api.Grid, c api.Cell) []api.Spot) set {
	s := set{}
	for _, c := range cellsOf(g) {
		for i := 1; i < len(l); i++ {
			if !slices.ContainsFunc(some(g, c), func(s api.Spot) bool { return !isNear(l[i-1], l[i], s, width) }) {
				s[c] = true
			}
		}
	}
	return s
}

// P8.2, P8.7: each place of a covered cell is within the width, and each cell of which that holds for one leg is covered.
func TestCoversOfMany(t *testing.T) {
	random := rand.New(rand.NewSource(4))
	check := func(g api.Grid, some func(g api.Grid, c api.Cell) []api.Spot) {
		t.Helper()
		size := g.Size * max(g.W, g.H)
		l, width := someTrack(random, size), min(random.Intn(3*g.Size), api.MaxLook)
		want := regionOf(t, g, coveredCells(g, l, width, some))
		if r, e := tracks.Covers(g, l, width); !slices.Equal(r, want) || e != api.OK {
			t.Fatalf("%d from %v in %v: %v, error %v; want %v", width, l, g, r, e, want)
		}
	}
	for range 600 {
		check(api.Grid{W: 1 + random.Intn(6), H: 1 + random.Intn(6), Size: 1 + random.Intn(4)}, places)
	}
	for range 600 {
		check(api.Grid{W: 1 + random.Intn(9), H: 1 + random.Intn(9), Size: 1 + random.Intn(api.MaxCell)}, ends)
	}
}

// columns returns a track along every second column of a grid of 256 rows of 1 m, that turns outside of it: with width 0 each column has 256 runs.
func columns(n int) []api.Spot {
	var l []api.Spot
	for i := range n {
		from, to := -1, 256
		if i%2 == 1 {
			from, to = to, from
		}
		l = append(l, spot(2*i, from), spot(2*i, to))
	}
	return l
}

// P8.2
func TestCoversRefuses(t *testing.T) {
	g := api.Grid{W: api.MaxWide, H: api.MaxWide, Size: 1}
	if r, e := tracks.Covers(g, columns(32), 0); len(r) != api.MaxRuns || e != api.OK {
		t.Errorf("the longest region: %d runs, error %v", len(r), e)
	}
	for _, l := range [][]api.Spot{columns(33), append(columns(32), spot(64, -1), spot(64, 0)), columns(128)} {
		if r, e := tracks.Covers(g, l, 0); len(r) != 0 || e != api.ErrLong {
			t.Errorf("a region that is too long: %d runs, error %v", len(r), e)
		}
	}
	// The columns have more runs than a region may have, before the rows make one of each row.
	filled := append(columns(128), spot(256, -1))
	for y := range 256 {
		from, to := 256, -1
		if y%2 == 1 {
			from, to = to, from
		}
		filled = append(filled, spot(from, y), spot(to, y))
	}
	if r, e := tracks.Covers(g, filled, 0); !slices.Equal(r, rows(g, 0, 256)) || e != api.OK {
		t.Errorf("all: %d runs, error %v", len(r), e)
	}
	check := func(g api.Grid, l []api.Spot, width int) {
		t.Helper()
		if r, e := tracks.Covers(g, l, width); len(r) != 0 || e != api.ErrArg {
			t.Errorf("%d from %v: %v, error %v", width, l, r, e)
		}
	}
	for _, g := range wrongGrids {
		check(g, track(0, 0, 5, 5), 3)
	}
	for _, l := range wrongTracks() {
		check(g, l, 3)
	}
	for _, width := range []int{-1, api.MaxLook + 1, huge, small} {
		check(g, columns(33), width)
	}
}
