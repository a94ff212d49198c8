package tracks_test

import (
	"math/rand"
	"slices"
	"testing"

	"cresset/api"
	"cresset/tracks"
)

// exchanged returns spots with X and Y exchanged.
func exchanged(l ...api.Spot) []api.Spot {
	var out []api.Spot
	for _, s := range l {
		out = append(out, spot(s.Y, s.X))
	}
	return out
}

// parallel returns a track along x, by the text of the chapter.
func parallel(low, high api.Spot, space int) []api.Spot {
	var l []api.Spot
	for k := 0; k*space < high.Y-low.Y; k++ {
		y := low.Y + space/2 + k*space
		if y > high.Y {
			y = high.Y
		}
		if k%2 == 0 {
			l = append(l, spot(low.X, y), spot(high.X, y))
		} else {
			l = append(l, spot(high.X, y), spot(low.X, y))
		}
	}
	return l
}

// checkParallel checks a track of each direction.
func checkParallel(t *testing.T, low, high api.Spot, space int, want []api.Spot) {
	t.Helper()
	if l, e := tracks.Parallel(low, high, space, 0); !slices.Equal(l, want) || e != api.OK {
		t.Errorf("from %v to %v by %d along x: %v, error %v", low, high, space, l, e)
	}
	low, high = spot(low.Y, low.X), spot(high.Y, high.X)
	if l, e := tracks.Parallel(low, high, space, 1); !slices.Equal(l, exchanged(want...)) || e != api.OK {
		t.Errorf("from %v to %v by %d along y: %v, error %v", low, high, space, l, e)
	}
}

// P8.3
func TestParallel(t *testing.T) {
	for _, c := range []struct {
		low, high api.Spot
		space     int
		want      []api.Spot
	}{
		{spot(0, 0), spot(10, 9), 4, track(0, 2, 10, 2, 10, 6, 0, 6, 0, 9, 10, 9)},
		{spot(0, 0), spot(10, 8), 4, track(0, 2, 10, 2, 10, 6, 0, 6)},
		{spot(0, 0), spot(10, 9), 5, track(0, 2, 10, 2, 10, 7, 0, 7)},
		{spot(0, 0), spot(10, 11), 5, track(0, 2, 10, 2, 10, 7, 0, 7, 0, 11, 10, 11)},
		{spot(-3, -5), spot(4, -2), 1, track(-3, -5, 4, -5, 4, -4, -3, -4, -3, -3, 4, -3)},
		{spot(-3, -5), spot(4, -2), 2, track(-3, -4, 4, -4, 4, -2, -3, -2)},
		{spot(-3, -5), spot(4, -2), 3, track(-3, -4, 4, -4)},
		{spot(-3, -5), spot(4, -2), 6, track(-3, -2, 4, -2)},
		{spot(-3, -5), spot(4, -2), 100, track(-3, -2, 4, -2)},
		{spot(0, 0), spot(1, 1), 1, track(0, 0, 1, 0)},
		{spot(0, 0), spot(1, 1), 2, track(0, 1, 1, 1)},
		{spot(0, 0), spot(7, 5), api.MaxLook, track(0, 5, 7, 5)},
		{spot(-place, -place), spot(place, -place+api.MaxLook), api.MaxLook, track(-place, -place+api.MaxLook/2, place, -place+api.MaxLook/2)},
		{spot(0, 0), spot(7, 512), 1, parallel(spot(0, 0), spot(7, 512), 1)},
		{spot(0, 0), spot(7, 511*3+1), 3, parallel(spot(0, 0), spot(7, 511*3+1), 3)},
		{spot(-place, -place), spot(place, place), 1 << 16, parallel(spot(-place, -place), spot(place, place), 1<<16)},
	} {
		checkParallel(t, c.low, c.high, c.space, c.want)
	}
	random := rand.New(rand.NewSource(5))
	for range 3000 {
		low := spot(random.Intn(200)-100, random.Intn(200)-100)
		high := spot(low.X+1+random.Intn(50), low.Y+1+random.Intn(50))
		space := 1 + random.Intn(12)
		checkParallel(t, low, high, space, parallel(low, high, space))
	}
}

// P8.3
func TestParallelRefuses(t *testing.T) {
	check := func(low, high api.Spot, space, along int, want api.Errno) {
		t.Helper()
		if l, e := tracks.Parallel(low, high, space, along); !isRefused(l, e, want) {
			t.Errorf("from %v to %v by %d along %d: %v, error %v", low, high, space, along, l, e)
		}
	}
	low, high := spot(0, 0), spot(2000, 2000)
	for along := range 2 {
		for _, s := range wrongSpots {
			check(s, high, 1, along, api.ErrArg)
			check(low, s, 1, along, api.ErrArg)
			check(s, s, 1, along, api.ErrArg)
		}
		for _, s := range []api.Spot{{}, {X: 5}, {Y: 5}, {X: -1, Y: 5}, {X: 5, Y: -1}, {X: -4, Y: -4}} {
			check(low, s, 1, along, api.ErrArg)
		}
		for _, space := range []int{0, -1, api.MaxLook + 1, huge, small} {
			check(low, high, space, along, api.ErrArg)
		}
		check(low, high, 1, along, api.ErrLong)
		check(spot(-place, -place), spot(place, place), 1, along, api.ErrLong)
		check(spot(-place, -place), spot(place, place), 1<<16-1, along, api.ErrLong)
	}
	for _, along := range []int{-1, 2, huge, small} {
		check(low, high, 1, along, api.ErrArg)
	}
	// There are 1024 spots, and more by one line, or along the other side.
	check(low, spot(7, 513), 1, 0, api.ErrLong)
	check(low, spot(513, 7), 1, 1, api.ErrLong)
	check(low, spot(7, 512*3+1), 3, 0, api.ErrLong)
	if l, e := tracks.Parallel(low, spot(7, 513), 1, 1); len(l) != 14 || e != api.OK {
		t.Errorf("a high box along y: %d spots, error %v", len(l), e)
	}
	if l, e := tracks.Parallel(low, spot(7, 512), 1, 0); len(l) != api.MaxTrack || e != api.OK {
		t.Errorf("the longest track: %d spots, error %v", len(l), e)
	}
}

// P8.4
func TestSquare(t *testing.T) {
	example := track(0, 0, 2, 0, 2, 2, -2, 2, -2, -2, 4, -2, 4, 4, -4, 4, -4, -4, 6, -4)
	for legs := 1; legs < len(example); legs++ {
		if l, e := tracks.Square(spot(0, 0), 2, legs); !slices.Equal(l, example[:legs+1]) || e != api.OK {
			t.Errorf("%d legs: %v, error %v", legs, l, e)
		}
	}
	random := rand.New(rand.NewSource(6))
	for range 300 {
		s, space, legs := spot(random.Intn(2000)-1000, random.Intn(2000)-1000), 1+random.Intn(9000), 1+random.Intn(api.MaxTrack-1)
		want := []api.Spot{s}
		for i, at := 0, s; i < legs; i++ {
			n := (i/2 + 1) * space
			at = []api.Spot{spot(at.X+n, at.Y), spot(at.X, at.Y+n), spot(at.X-n, at.Y), spot(at.X, at.Y-n)}[i%4]
			want = append(want, at)
		}
		if l, e := tracks.Square(s, space, legs); !slices.Equal(l, want) || e != api.OK {
			t.Fatalf("%d legs by %d from %v: %v, error %v", legs, space, s, l, e)
		}
	}
}

// P8.4
func TestSquareRefuses(t *testing.T) {
	check := func(s api.Spot, space, legs int, want api.Errno) {
		t.Helper()
		l, e := tracks.Square(s, space, legs)
		if want == api.OK && (len(l) != legs+1 || e != api.OK) || want != api.OK && !isRefused(l, e, want) {
			t.Errorf("%d legs by %d from %v: %d spots, error %v", legs, space, s, len(l), e)
		}
	}
	for _, s := range wrongSpots {
		check(s, 1, 1, api.ErrArg)
	}
	for _, space := range []int{0, -1, api.MaxLook + 1, huge, small} {
		check(spot(0, 0), space, 1, api.ErrArg)
	}
	for _, legs := range []int{0, -1, api.MaxTrack, huge, small} {
		check(spot(0, 0), 1, legs, api.ErrArg)
	}
	check(spot(0, 0), 1, api.MaxTrack-1, api.OK)
	check(spot(0, 0), api.MaxLook, 4, api.OK)
	check(spot(0, 0), api.MaxLook, api.MaxTrack-1, api.ErrArg)
	check(spot(0, 0), api.MaxLook, 61, api.OK)
	check(spot(0, 0), api.MaxLook, 63, api.OK)
	check(spot(0, 0), api.MaxLook, 64, api.OK)
	check(spot(0, 0), api.MaxLook, 65, api.ErrArg)
	check(spot(place-5, 0), 5, 1, api.OK)
	check(spot(place-5, 0), 6, 1, api.ErrArg)
	check(spot(place-5, place-5), 5, 2, api.OK)
	check(spot(place-6, place-5), 6, 1, api.OK)
	check(spot(place-6, place-5), 6, 2, api.ErrArg)
	check(spot(-place+5, 0), 5, 3, api.OK)
	check(spot(-place+5, 0), 6, 3, api.ErrArg)
	check(spot(0, -place+5), 5, 4, api.OK)
	check(spot(0, -place+5), 6, 3, api.OK)
	check(spot(0, -place+5), 6, 4, api.ErrArg)
	// A spot on the way that is not valid is enough, even where the last one is.
	check(spot(place-5, 0), 6, 3, api.ErrArg)
}

// P8.4
func TestSector(t *testing.T) {
	whole := track(7, -2, 12, -2, 12, 3, 7, -2, 7, 3, 2, 3, 7, -2, 2, -2, 2, -7, 7, -2, 7, -7, 12, -7, 7, -2)
	for legs := 1; legs <= 12; legs++ {
		if l, e := tracks.Sector(spot(7, -2), 5, legs); !slices.Equal(l, whole[:legs+1]) || e != api.OK {
			t.Errorf("%d legs: %v, error %v", legs, l, e)
		}
	}
	if l, e := tracks.Sector(spot(0, 0), api.MaxLook, 3); !slices.Equal(l, track(0, 0, api.MaxLook, 0, api.MaxLook, api.MaxLook, 0, 0)) || e != api.OK {
		t.Errorf("the greatest radius: %v, error %v", l, e)
	}
}

// P8.4
func TestSectorRefuses(t *testing.T) {
	for _, s := range wrongSpots {
		if l, e := tracks.Sector(s, 1, 1); !isRefused(l, e, api.ErrArg) {
			t.Errorf("%v: %v, error %v", s, l, e)
		}
	}
	for _, radius := range []int{0, -1, api.MaxLook + 1, huge, small} {
		if l, e := tracks.Sector(spot(0, 0), radius, 1); !isRefused(l, e, api.ErrArg) {
			t.Errorf("the radius %d: %v, error %v", radius, l, e)
		}
	}
	for _, legs := range []int{0, -1, 13, huge, small} {
		if l, e := tracks.Sector(spot(0, 0), 1, legs); !isRefused(l, e, api.ErrArg) {
			t.Errorf("%d legs: %v, error %v", legs, l, e)
		}
	}
	// How many legs there are before a spot that is not valid.
	for _, c := range []struct {
		s    api.Spot
		most int
	}{
		{spot(place-5, 0), 0},
		{spot(0, place-5), 1},
		{spot(-place+5, 0), 4},
		{spot(0, -place+5), 7},
		{spot(place, place), 0},
		{spot(-place, place), 1},
		{spot(-place, -place), 4},
	} {
		for legs := 1; legs <= 12; legs++ {
			l, e := tracks.Sector(c.s, 6, legs)
			if legs <= c.most && (len(l) != legs+1 || e != api.OK) || legs > c.most && !isRefused(l, e, api.ErrArg) {
				t.Errorf("%d legs from %v: %v, error %v", legs, c.s, l, e)
			}
		}
		if c.s.X == place-5 || c.s.X == 0 || c.s.X == -place+5 {
			if l, e := tracks.Sector(c.s, 5, 12); len(l) != 13 || e != api.OK {
				t.Errorf("just within from %v: %v, error %v", c.s, l, e)
			}
		}
	}
}
