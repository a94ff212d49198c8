package report_test

import (
	"math/rand"
	"slices"
	"testing"

	"cresset/api"
	"cresset/report"
)

// P2.1
func TestCheckArea(t *testing.T) {
	for _, c := range []struct {
		what string
		l    []api.Spot
		want bool
	}{
		{"nothing", nil, false},
		{"an empty list", []api.Spot{}, false},
		{"a place", spots(0, 0), true},
		{"the lowest place", spots(-place, -place), true},
		{"the highest place", spots(place, place), true},
		{"X too high", spots(place+1, 0), false},
		{"X too low", spots(-place-1, 0), false},
		{"Y too high", spots(0, place+1), false},
		{"Y too low", spots(0, -place-1), false},
		{"a huge place", spots(big, small), false},
		{"two places", spots(0, 0, 1, 0), true},
		{"two equal places", spots(3, 4, 3, 4), false},
		{"two places, one wrong", spots(0, 0, place+1, 0), false},
		{"a triangle", spots(0, 0, 10, 0, 0, 10), true},
		{"a triangle clockwise", spots(0, 0, 0, 10, 10, 0), false},
		{"three places on a line", spots(0, 0, 1, 1, 2, 2), false},
		{"three places on a line, back", spots(0, 0, 2, 2, 1, 1), false},
		{"three equal places", spots(1, 1, 1, 1, 1, 1), false},
		{"two equal corners", spots(0, 0, 0, 0, 5, 0, 0, 5), false},
		{"a corner again", spots(0, 0, 5, 0, 0, 5, 0, 0), false},
		{"a triangle, one wrong", spots(0, 0, 10, 0, 0, place+1), false},
		{"a triangle, huge", spots(small, small, big, 0, 0, big), false},
		{"a square", spots(0, 0, 1, 0, 1, 1, 0, 1), true},
		{"a straight corner", spots(0, 0, 1, 0, 2, 0, 2, 2, 0, 2), false},
		{"a corner to the right", spots(0, 0, 4, 0, 4, 4, 2, 1, 0, 4), false},
		{"a crossing", spots(0, 0, 2, 2, 2, 0, 0, 2), false},
		{"the whole sea", spots(-place, -place, place, -place, place, place, -place, place), true},
		{"the whole sea clockwise", spots(-place, -place, -place, place, place, place, place, -place), false},
		{"twice around", spots(0, 0, 4, 0, 0, 4, 0, 0, 4, 0, 0, 4), true},
		{"four times around", slices.Repeat(spots(0, 0, 4, 0, 0, 4), 4), true},
		{"five times around", slices.Repeat(spots(0, 0, 4, 0, 0, 4), 5), false},
		{"twice around, clockwise", slices.Repeat(spots(0, 0, 0, 4, 4, 0), 2), false},
		{"two triangles, with corners on lines", spots(0, 0, 4, 0, 0, 4, 0, 0, 2, 0, 0, 4), false},
		{"a star that turns to the left everywhere", spots(0, 10, -6, -8, 9, 3, -9, 3, 6, -8), false},
		{"a star that turns to the right everywhere", spots(6, -8, -9, 3, 9, 3, -6, -8, 0, 10), false},
		{"twelve corners", twelve(), true},
		{"twelve corners, from another one on", rotated(twelve(), 5), true},
		{"thirteen corners", spots(3, 0, 4, 0, 6, 1, 7, 3, 7, 4, 6, 6, 4, 7, 3, 7, 1, 6, 0, 4, 0, 3, 1, 1, 2, 0), false},
		{"thirteen corners on a curve", parabola(13), false},
		{"twelve corners on a curve", parabola(12), true},
	} {
		if got := report.CheckArea(c.l); got != c.want {
			t.Errorf("%s: %v", c.what, got)
		}
	}
}

// parabola returns so many places of a curve, which turns to the left.
func parabola(n int) []api.Spot {
	var l []api.Spot
	for x := range n {
		l = append(l, api.Spot{X: x, Y: x * x})
	}
	return l
}

// P2.1: an area of three places and more is valid just if it goes around its hull, once or more.
func TestCheckAreaOfSome(t *testing.T) {
	random := rand.New(rand.NewSource(1))
	valid := 0
	for range 200000 {
		l := make([]api.Spot, 3+random.Intn(4))
		size := 3 + random.Intn(4)
		for i := range l {
			l[i] = api.Spot{X: random.Intn(size), Y: random.Intn(size)}
		}
		if random.Intn(4) == 0 {
			l = hull(l)
			if len(l) < 3 {
				continue
			}
			l = slices.Repeat(rotated(l, random.Intn(len(l))), 1+random.Intn(2))
		}
		h := hull(l)
		want := false
		for k := range h {
			times := len(l) / len(h)
			want = want || len(h) > 2 && len(l) <= api.MaxCorners && slices.Equal(slices.Repeat(rotated(h, k), times), l)
		}
		if got := report.CheckArea(l); got != want {
			t.Fatalf("%v: %v", l, got)
		}
		if want {
			valid++
		}
	}
	if valid < 1000 {
		t.Errorf("just %d were valid", valid)
	}
}

// P2.1
func TestHas(t *testing.T) {
	triangle, line, steep := spots(0, 0, 10, 0, 0, 10), spots(-2, -1, 4, 2), spots(3, 5, 3, -5)
	whole := spots(-place, -place, place, -place, place, place, -place, place)
	for _, c := range []struct {
		what string
		l    []api.Spot
		x, y int
		want bool
	}{
		{"a place", spots(3, 4), 3, 4, true},
		{"a place, beside it", spots(3, 4), 3, 5, false},
		{"a place, beside it", spots(3, 4), 4, 4, false},
		{"a line's end", line, -2, -1, true},
		{"a line's other end", line, 4, 2, true},
		{"a line", line, 0, 0, true},
		{"a line, beside it", line, 1, 0, false},
		{"a line, behind its end", line, 6, 3, false},
		{"a line, ahead of it", line, -4, -2, false},
		{"a steep line", steep, 3, 0, true},
		{"a steep line's end", steep, 3, -5, true},
		{"a steep line, behind its end", steep, 3, -6, false},
		{"a steep line, ahead of it", steep, 3, 6, false},
		{"a steep line, beside it", steep, 4, 0, false},
		{"a triangle", triangle, 3, 3, true},
		{"a triangle's corner", triangle, 0, 10, true},
		{"a triangle's edge", triangle, 5, 5, true},
		{"a triangle's edge", triangle, 0, 5, true},
		{"a triangle, beside it", triangle, 6, 5, false},
		{"a triangle, beside it", triangle, -1, 5, false},
		{"a triangle, beside it", triangle, 5, -1, false},
		{"a triangle, behind an edge's end", triangle, 11, 0, false},
		{"the whole sea", whole, place, -place, true},
		{"the whole sea", whole, 5, 7, true},
		{"a place that is not valid", whole, place + 1, 0, false},
		{"a place that is not valid", whole, 0, -place - 1, false},
		{"a huge place", triangle, big, small, false},
		{"nothing", nil, 0, 0, false},
		{"two equal places", spots(3, 4, 3, 4), 3, 4, false},
		{"a triangle clockwise", spots(0, 0, 0, 10, 10, 0), 3, 3, false},
		{"an area that is not valid", spots(place+1, 0), place + 1, 0, false},
		{"thirteen corners", parabola(13), 0, 0, false},
		{"twelve corners", twelve(), 3, 3, true},
		{"twelve corners, beside them", twelve(), 0, 1, false},
	} {
		if got := report.Has(c.l, api.Spot{X: c.x, Y: c.y}); got != c.want {
			t.Errorf("%s: %v of (%d, %d) is %v", c.what, c.l, c.x, c.y, got)
		}
	}
}

// P2.1: an area has a place just if the place would not make its hull greater.
func TestHasOfSome(t *testing.T) {
	random := rand.New(rand.NewSource(2))
	for range 3000 {
		l := make([]api.Spot, 1+random.Intn(6))
		for i := range l {
			l[i] = api.Spot{X: random.Intn(9), Y: random.Intn(9)}
		}
		l = hull(l)
		for x := -1; x < 10; x++ {
			for y := -1; y < 10; y++ {
				p := api.Spot{X: x, Y: y}
				want := slices.Equal(hull(append(slices.Clone(l), p)), l)
				if got := report.Has(l, p); got != want {
					t.Fatalf("%v of %v: %v", l, p, got)
				}
			}
		}
	}
}
