package report_test

import (
	"math/rand"
	"testing"

	"cresset/api"
	"cresset/report"
)

// P2.6
func TestBearingOfWrong(t *testing.T) {
	east, north := api.Spot{X: 1}, api.Spot{Y: 1}
	for _, c := range []struct {
		what           string
		o, left, right api.Spot
		reach          int
		e              api.Errno
	}{
		{"a quarter", api.Spot{}, north, east, 5, api.OK},
		{"one direction", api.Spot{}, north, north, 5, api.OK},
		{"one direction, of two lengths", api.Spot{}, api.Spot{X: -2, Y: 4}, api.Spot{X: -3, Y: 6}, 5, api.OK},
		{"the turn below 0", api.Spot{}, east, north, 5, api.ErrArg},
		{"opposite directions", api.Spot{}, api.Spot{X: -1}, east, 5, api.ErrArg},
		{"opposite directions, of two lengths", api.Spot{}, api.Spot{X: -3, Y: 6}, api.Spot{X: 2, Y: -4}, 5, api.ErrArg},
		{"no left direction", api.Spot{}, api.Spot{}, east, 5, api.ErrArg},
		{"no right direction", api.Spot{}, north, api.Spot{}, 5, api.ErrArg},
		{"no direction", api.Spot{}, api.Spot{}, api.Spot{}, 5, api.ErrArg},
		{"the greatest directions", api.Spot{}, api.Spot{X: -1000, Y: 1000}, api.Spot{X: 1000, Y: -999}, 5, api.OK},
		{"a left direction too great", api.Spot{}, api.Spot{Y: 1001}, east, 5, api.ErrArg},
		{"a left direction too low", api.Spot{}, api.Spot{X: -1001, Y: 1}, east, 5, api.ErrArg},
		{"a right direction too great", api.Spot{}, north, api.Spot{X: 1001}, 5, api.ErrArg},
		{"a right direction too low", api.Spot{}, north, api.Spot{X: 5, Y: -1001}, 5, api.ErrArg},
		{"huge directions", api.Spot{}, api.Spot{X: small, Y: big}, api.Spot{X: big, Y: small}, 5, api.ErrArg},
		{"a place too far", api.Spot{X: place + 1}, north, east, 5, api.ErrArg},
		{"a place too low", api.Spot{Y: -place - 1}, north, east, 5, api.ErrArg},
		{"a huge place", api.Spot{X: small, Y: big}, north, east, 5, api.ErrArg},
		{"a wrong place and a wrong reach", api.Spot{X: place + 1}, north, east, 0, api.ErrArg},
		{"a wrong turn and a wrong reach", api.Spot{}, east, north, 0, api.ErrArg},
		{"reach 0", api.Spot{}, north, east, 0, api.ErrRange},
		{"reach -1", api.Spot{}, north, east, -1, api.ErrRange},
		{"reach 1", api.Spot{}, north, east, 1, api.OK},
		{"the greatest reach", api.Spot{}, north, east, place, api.OK},
		{"the greatest reach, off the middle", api.Spot{X: 1}, north, east, place, api.ErrRange},
		{"the greatest reach, off the middle", api.Spot{Y: -1}, north, east, place, api.ErrRange},
		{"reach too great", api.Spot{}, north, east, place + 1, api.ErrRange},
		{"a huge reach", api.Spot{X: place}, north, east, big, api.ErrRange},
		{"the greatest number", api.Spot{X: place}, north, east, 1<<63 - 1, api.ErrRange},
		{"the least number", api.Spot{X: place}, north, east, small, api.ErrRange},
		{"at the bounds", api.Spot{X: place, Y: place}, north, east, 1, api.ErrRange},
		{"near the bounds", api.Spot{X: place - 1, Y: 1 - place}, north, east, 1, api.OK},
		{"near the lower bound of X", api.Spot{X: 5 - place}, north, east, 5, api.OK},
		{"too near to the lower bound of X", api.Spot{X: 4 - place}, north, east, 5, api.ErrRange},
		{"near the upper bound of Y", api.Spot{Y: place - 5}, north, east, 5, api.OK},
		{"too near to the upper bound of Y", api.Spot{Y: place - 4}, north, east, 5, api.ErrRange},
	} {
		l, e := report.Bearing(c.o, c.left, c.right, c.reach)
		if e != c.e || report.CheckArea(l) != (e == api.OK) || e != api.OK && len(l) != 0 {
			t.Errorf("%s: %v, error %d; want error %d", c.what, l, e, c.e)
		}
	}
}

// isSeen reports whether d, as seen from (0, 0), is between two directions.
func isSeen(d, left, right api.Spot) bool {
	turn := right.X*left.Y - right.Y*left.X
	return right.X*d.Y-right.Y*d.X >= 0 && d.X*left.Y-d.Y*left.X >= 0 && (turn != 0 || d.X*right.X+d.Y*right.Y >= 0)
}

// isBearing reports whether two directions may be asked about.
func isBearing(left, right api.Spot) bool {
	turn := right.X*left.Y - right.Y*left.X
	return turn > 0 || turn == 0 && left.X*right.X+left.Y*right.Y > 0
}

// bears returns the area of a bearing, which is valid and does not go too far.
func bears(t *testing.T, o, left, right api.Spot, reach int) []api.Spot {
	t.Helper()
	l, e := report.Bearing(o, left, right, reach)
	if e != api.OK || !report.CheckArea(l) {
		t.Fatalf("from %v, left %v, right %v, reach %d: %v, error %d", o, left, right, reach, l, e)
	}
	for _, p := range l {
		if max(p.X-o.X, o.X-p.X, p.Y-o.Y, o.Y-p.Y) > reach+1 {
			t.Fatalf("from %v, left %v, right %v, reach %d: %v is too far", o, left, right, reach, l)
		}
	}
	return l
}

// hasAll checks that an area has each place of the bearing.
func hasAll(t *testing.T, l []api.Spot, o, left, right api.Spot, reach int) {
	t.Helper()
	for x := -reach; x <= reach; x++ {
		for y := -reach; y <= reach; y++ {
			if d := (api.Spot{X: x, Y: y}); isSeen(d, left, right) && !report.Has(l, api.Spot{X: o.X + x, Y: o.Y + y}) {
				t.Fatalf("from %v, left %v, right %v, reach %d: %v does not have %v", o, left, right, reach, l, d)
			}
		}
	}
}

// P2.6: all pairs of small directions, for short reaches.
func TestBearingOfSmall(t *testing.T) {
	const most = 3
	var directions []api.Spot
	for x := -most; x <= most; x++ {
		for y := -most; y <= most; y++ {
			if x != 0 || y != 0 {
				directions = append(directions, api.Spot{X: x, Y: y})
			}
		}
	}
	for _, left := range directions {
		for _, right := range directions {
			if !isBearing(left, right) {
				continue
			}
			for reach := 1; reach <= 7; reach++ {
				o := api.Spot{X: reach - place, Y: place - reach}
				hasAll(t, bears(t, o, left, right, reach), o, left, right, reach)
			}
		}
	}
}

// someDirection returns a direction, often one near to an axis or to a corner.
func someDirection(random *rand.Rand) api.Spot {
	for {
		d := api.Spot{X: random.Intn(2001) - 1000, Y: random.Intn(2001) - 1000}
		switch random.Intn(4) {
		case 0:
			d.X = random.Intn(5) - 2
		case 1:
			d.Y = random.Intn(5) - 2
		case 2:
			d.X = max(-1000, min(1000, d.Y+random.Intn(5)-2))
		}
		if d != (api.Spot{}) {
			return d
		}
	}
}

// P2.6: some pairs of directions, for short reaches.
func TestBearingOfSome(t *testing.T) {
	random := rand.New(rand.NewSource(9))
	for n := 0; n < 20000; n++ {
		left, right := someDirection(random), someDirection(random)
		if n%5 == 0 { // almost opposite, or almost one
			sign := 1 - 2*random.Intn(2)
			left = api.Spot{X: max(-1000, min(1000, sign*right.X+random.Intn(3)-1)), Y: max(-1000, min(1000, sign*right.Y+random.Intn(3)-1))}
		}
		if left == (api.Spot{}) || !isBearing(left, right) {
			continue
		}
		reach := 1 + random.Intn(12)
		o := api.Spot{X: random.Intn(100), Y: -random.Intn(100)}
		hasAll(t, bears(t, o, left, right, reach), o, left, right, reach)
	}
}

// P2.6: far places, next to both directions and anywhere between them.
func TestBearingOfFar(t *testing.T) {
	random := rand.New(rand.NewSource(10))
	for range 20000 {
		left, right := someDirection(random), someDirection(random)
		if random.Intn(4) == 0 {
			left = right
		}
		if !isBearing(left, right) {
			continue
		}
		reach := place - random.Intn(2)*random.Intn(place)
		o := api.Spot{X: place - reach, Y: reach - place}
		l := bears(t, o, left, right, reach)
		near := func(d api.Spot) {
			m := max(d.X, -d.X, d.Y, -d.Y)
			r := reach - random.Intn(2)*random.Intn(reach)
			for x := -2; x <= 2; x++ {
				for y := -2; y <= 2; y++ {
					p := api.Spot{X: r*d.X/m + x, Y: r*d.Y/m + y}
					if isSeen(p, left, right) && max(p.X, -p.X, p.Y, -p.Y) <= reach && !report.Has(l, api.Spot{X: o.X + p.X, Y: o.Y + p.Y}) {
						t.Fatalf("from %v, left %v, right %v, reach %d: %v does not have %v", o, left, right, reach, l, p)
					}
				}
			}
		}
		near(left)
		near(right)
		for _, corner := range spots(1, 1, -1, 1, -1, -1, 1, -1) {
			near(corner)
		}
		near(someDirection(random))
	}
}
