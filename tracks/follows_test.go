package tracks_test

import (
	"math/rand"
	"reflect"
	"slices"
	"testing"

	"cresset/api"
	"cresset/tracks"
)

// P8.7: what is laid out is valid. (Outlines are checked in their own test.)
func TestLaidTracksAreValid(t *testing.T) {
	random := rand.New(rand.NewSource(8))
	number := func() int {
		switch random.Intn(3) {
		case 0:
			return random.Intn(10) - 5
		case 1:
			return place - random.Intn(3*api.MaxLook)
		}
		return random.Intn(3*api.MaxLook) - place
	}
	laid := 0
	check := func(what string, l []api.Spot, e api.Errno) {
		t.Helper()
		if e == api.OK {
			laid++
		}
		if e == api.OK && tracks.CheckTrack(l) != api.OK || e != api.OK && len(l) > 0 {
			t.Fatalf("%s: %v, error %v", what, l, e)
		}
	}
	for range 20000 {
		a, b, n := spot(number(), number()), spot(number(), number()), 1+random.Intn(1<<random.Intn(21))
		l, e := tracks.Parallel(a, b, n, random.Intn(2))
		check("Parallel", l, e)
		l, e = tracks.Square(a, n, 1+random.Intn(1<<random.Intn(10)))
		check("Square", l, e)
		l, e = tracks.Sector(a, n, 1+random.Intn(12))
		check("Sector", l, e)
	}
	if laid < 10000 {
		t.Errorf("only %d tracks were laid out", laid)
	}
}

// P8.7
func TestParallelComesNear(t *testing.T) {
	random := rand.New(rand.NewSource(9))
	for range 300 {
		low := spot(random.Intn(100)-50, random.Intn(100)-50)
		high := spot(low.X+1+random.Intn(20), low.Y+1+random.Intn(20))
		space := 1 + random.Intn(24)
		l, e := tracks.Parallel(low, high, space, random.Intn(2))
		if e != api.OK {
			t.Fatalf("error %v", e)
		}
		for y := low.Y; y <= high.Y; y++ {
			for x := low.X; x <= high.X; x++ {
				if !near(t, l, spot(x, y), (space+1)/2) {
					t.Fatalf("(%d, %d) is too far from %v, which is by %d from %v to %v", x, y, l, space, low, high)
				}
			}
		}
	}
}

// P8.7
func TestSquareComesNear(t *testing.T) {
	random := rand.New(rand.NewSource(10))
	for range 60 {
		s, space, m := spot(random.Intn(100)-50, random.Intn(100)-50), 1+random.Intn(5), random.Intn(6)
		l, e := tracks.Square(s, space, 4*m+1)
		if e != api.OK {
			t.Fatalf("error %v", e)
		}
		for y := -m * space; y <= m*space; y++ {
			for x := -m * space; x <= m*space; x++ {
				if !near(t, l, spot(s.X+x, s.Y+y), space) {
					t.Fatalf("(%d, %d) from the middle is too far from %v", x, y, l)
				}
			}
		}
	}
}

// P8.7: each place of a covered cell is within the width.
func TestCoveredIsNear(t *testing.T) {
	random := rand.New(rand.NewSource(11))
	for range 300 {
		g := api.Grid{W: 1 + random.Intn(9), H: 1 + random.Intn(9), Size: 1 + random.Intn(6)}
		l, width := someTrack(random, g.Size*9), random.Intn(4*g.Size)
		r, e := tracks.Covers(g, l, width)
		if e != api.OK {
			t.Fatalf("error %v", e)
		}
		for c := range setOf(r) {
			for _, s := range places(g, c) {
				if !near(t, l, s, width) {
					t.Fatalf("%v of %v is not within %d of %v", s, c, width, l)
				}
			}
		}
	}
}

// P8.7
func TestBackwards(t *testing.T) {
	random := rand.New(rand.NewSource(12))
	for range 500 {
		g := api.Grid{W: 1 + random.Intn(20), H: 1 + random.Intn(20), Size: 1 + random.Intn(500)}
		l, width := someTrack(random, g.Size*20), random.Intn(3*g.Size)
		back := backwards(l)
		low, high, _ := tracks.Length(l)
		if backLow, backHigh, e := tracks.Length(back); low != backLow || high != backHigh || e != api.OK {
			t.Fatalf("%v is from %d to %d long, backwards from %d to %d", l, low, high, backLow, backHigh)
		}
		r, _ := tracks.Covers(g, l, width)
		if other, e := tracks.Covers(g, back, width); !slices.Equal(r, other) || e != api.OK {
			t.Fatalf("%v covers %v, backwards %v", l, r, other)
		}
	}
}

// P8.6: arguments stay, results are their own.
func TestMemory(t *testing.T) {
	g := api.Grid{W: 3, H: 3, Size: 10, Land: []api.Run{{Y: 2, From: 1, To: 2}}}
	l, r := track(0, 15, 30, 15, 30, 20), []api.Run{{Y: 0, To: 2}, {Y: 1, To: 1}}
	type result struct {
		spots []api.Spot
		runs  []api.Run
	}
	for what, call := range map[string]func() result{
		"Covers":   func() result { r, _ := tracks.Covers(g, l, 15); return result{runs: r} },
		"Parallel": func() result { l, _ := tracks.Parallel(spot(0, 0), spot(10, 9), 4, 0); return result{spots: l} },
		"Square":   func() result { l, _ := tracks.Square(spot(0, 0), 2, 9); return result{spots: l} },
		"Sector":   func() result { l, _ := tracks.Sector(spot(0, 0), 2, 12); return result{spots: l} },
		"Outline":  func() result { l, _ := tracks.Outline(g, r); return result{spots: l} },
		"the others": func() result {
			tracks.CheckTrack(l)
			tracks.Length(l)
			tracks.Seconds(l, 1000)
			tracks.Near(l, spot(-5, -5), 3)
			return result{}
		},
	} {
		want, other := call(), call()
		if what != "the others" && len(want.spots)+len(want.runs) == 0 {
			t.Errorf("%s: nothing", what)
		}
		other.spots, other.runs = append(other.spots[:0], make([]api.Spot, len(other.spots))...), append(other.runs[:0], make([]api.Run, len(other.runs))...)
		if got := call(); !reflect.DeepEqual(got, want) {
			t.Errorf("%s: %v becomes %v", what, want, got)
		}
	}
	if !slices.Equal(l, track(0, 15, 30, 15, 30, 20)) || !slices.Equal(r, []api.Run{{Y: 0, To: 2}, {Y: 1, To: 1}}) || !slices.Equal(g.Land, []api.Run{{Y: 2, From: 1, To: 2}}) {
		t.Errorf("arguments were changed: %v, %v, %v", l, r, g)
	}
}
