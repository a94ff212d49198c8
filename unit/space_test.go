package unit_test

import (
	"math/big"
	"math/rand"
	"slices"
	"testing"

	"cresset/api"
	"cresset/unit"
)

// box returns a box on the level 0.
func box(lowX, lowY, highX, highY, from, to int) api.Box {
	return api.Box{Low: spot(lowX, lowY), High: spot(highX, highY), From: from, To: to}
}

// P9.6
func TestBoxes(t *testing.T) {
	wide := changed(heron(), func(u *api.Unit) { u.Margin, u.Level = 100000, 100 })
	for _, c := range []struct {
		name   string
		u      api.Unit
		legs   []api.Leg
		pieces int
		want   []api.Box
	}{
		{"a plan in two pieces", heron(), planOf(t, heron(), 100, route(10), nil), 2, []api.Box{
			box(0, 0, 150, 0, 100, 250), box(150, 0, 300, 0, 250, 400), box(300, 0, 300, 0, 400, 410),
			box(300, 0, 300, 50, 410, 460), box(300, 50, 300, 100, 460, 510),
			box(149, 49, 300, 100, 510, 669), box(0, 0, 151, 51, 668, 827),
		}},
		{"in one piece", heron(), planOf(t, heron(), 100, route(10), nil), 1, []api.Box{
			box(0, 0, 300, 0, 100, 400), box(300, 0, 300, 0, 400, 410), box(300, 0, 300, 100, 410, 510), box(0, 0, 300, 100, 510, 827),
		}},
		{"more pieces than seconds", heron(), []api.Leg{leg(0, 10, 4, 6, 6, 0)}, 4, []api.Box{
			box(0, 0, 5, 0, 4, 5), box(0, 0, 5, 0, 4, 5), box(5, 0, 10, 0, 5, 6), box(5, 0, 10, 0, 5, 6),
		}},
		{"in three pieces, backwards", heron(), []api.Leg{leg(1, -1, 7, 11, 11, 0)}, 3, []api.Box{
			box(0, 0, 1, 0, 7, 9), box(-1, 0, 1, 0, 8, 10), box(-1, 0, 0, 0, 9, 11),
		}},
		{"a leg without time", heron(), []api.Leg{leg(4, 4, 7, 7, 7, 0)}, 20, []api.Box{box(4, 0, 4, 0, 7, 7)}},
		{"just a stay", heron(), []api.Leg{leg(4, 4, 7, 7, 9, 0)}, 20, []api.Box{box(4, 0, 4, 0, 7, 9)}},
		{"a slow way to where it is", heron(), []api.Leg{leg(4, 4, 7, 9, 9, 0)}, 2, []api.Box{box(4, 0, 4, 0, 7, 8), box(4, 0, 4, 0, 8, 9)}},
		{"outside of valid places", wide, []api.Leg{leg(place, place-1, 7, 8, 9, 0), leg(place-1, -place, 9, 9+2*place-1, 9+2*place-1, 0)}, 1, []api.Box{
			{Low: spot(place-100001, -100000), High: spot(place+100000, 100000), From: 7, To: 8, Level: 100},
			{Low: spot(place-100001, -100000), High: spot(place+99999, 100000), From: 8, To: 9, Level: 100},
			{Low: spot(-place-100000, -100000), High: spot(place+99999, 100000), From: 9, To: 8 + 2*place, Level: 100},
		}},
	} {
		got, e := unit.Boxes(c.u, c.legs, c.pieces)
		if !slices.Equal(got, c.want) || e != api.OK {
			t.Errorf("%s: %v, error %v", c.name, got, e)
		}
	}
}

// P9.6
func TestBoxesErrors(t *testing.T) {
	legs := []api.Leg{leg(0, 10, 4, 30, 30, 0)}
	check := func(u api.Unit, legs []api.Leg, pieces int, want api.Errno) {
		t.Helper()
		l, e := unit.Boxes(u, legs, pieces)
		if e != want || (e == api.OK) != (len(l) > 0) {
			t.Errorf("%+v in %d pieces: %v, error %v", u, pieces, l, e)
		}
	}
	for _, pieces := range []int{1, 2, api.MaxPieces} {
		check(heron(), legs, pieces, api.OK)
	}
	wrong := append(outside(api.MaxPieces), 0)
	for _, pieces := range wrong {
		check(heron(), legs, pieces, api.ErrRange)
	}
	for _, pieces := range append(wrong, 1) {
		for _, u := range wrongUnits() {
			check(u, legs, pieces, api.ErrArg)
		}
		for _, l := range wrongLegs() {
			check(heron(), l, pieces, api.ErrArg)
		}
	}
}

// modelBox returns the least box of all exact places from a time to another one; those at integer times, and between them, are between these two.
func modelBox(u api.Unit, l api.Leg, from, to int) api.Box {
	b := api.Box{Low: spot(place, place), High: spot(-place, -place), From: from, To: to, Level: u.Level}
	for time := from; time <= to; time++ {
		low, high := modelWhere(l, time)
		b.Low, b.High = spot(min(b.Low.X, low.X), min(b.Low.Y, low.Y)), spot(max(b.High.X, high.X), max(b.High.Y, high.Y))
	}
	b.Low, b.High = spot(b.Low.X-u.Margin, b.Low.Y-u.Margin), spot(b.High.X+u.Margin, b.High.Y+u.Margin)
	return b
}

// P9.6
func TestBoxesByTheText(t *testing.T) {
	random := rand.New(rand.NewSource(6))
	for range 1000 {
		u, legs, pieces := someUnit(random), someLegs(random, 100, 1+random.Intn(60)), 1+random.Intn(api.MaxPieces)
		var want []api.Box
		for _, l := range legs {
			long := l.Arrive - l.Start
			for j := 0; j < pieces && long > 0; j++ {
				want = append(want, modelBox(u, l, l.Start+long*j/pieces, l.Start+upper(times(long, j+1), number(pieces))))
			}
			if l.Arrive < l.Leave || long == 0 && l.Arrive == l.Leave {
				want = append(want, modelBox(u, l, l.Arrive, l.Leave))
			}
		}
		if got, e := unit.Boxes(u, legs, pieces); !slices.Equal(got, want) || e != api.OK {
			t.Fatalf("%v in %d pieces: %v, error %v", legs, pieces, got, e)
		}
	}
}

// P9.7
func TestClash(t *testing.T) {
	b := box(10, 20, 30, 40, 100, 200)
	for _, c := range []struct {
		name  string
		other api.Box
		want  bool
	}{
		{"itself", b, true},
		{"another level", changed(b, func(b *api.Box) { b.Level = 1 }), false},
		{"at its end", box(10, 20, 30, 40, 200, 300), true},
		{"after it", box(10, 20, 30, 40, 201, 300), false},
		{"at its beginning", box(10, 20, 30, 40, 0, 100), true},
		{"before it", box(10, 20, 30, 40, 0, 99), false},
		{"at the east", box(30, 20, 50, 40, 100, 200), true},
		{"to the east", box(31, 20, 50, 40, 100, 200), false},
		{"at the west", box(0, 20, 10, 40, 100, 200), true},
		{"to the west", box(0, 20, 9, 40, 100, 200), false},
		{"at the north", box(10, 40, 30, 60, 100, 200), true},
		{"to the north", box(10, 41, 30, 60, 100, 200), false},
		{"at the south", box(10, 0, 30, 20, 100, 200), true},
		{"to the south", box(10, 0, 30, 19, 100, 200), false},
		{"at a corner, at the end", box(30, 40, 99, 99, 200, 999), true},
		{"within it", box(20, 30, 20, 30, 150, 150), true},
		{"around it", box(0, 0, 99, 99, 0, 999), true},
		{"across it", box(0, 30, 99, 30, 0, 999), true},
		{"no time at all", box(10, 20, 30, 40, 160, 150), false},
		{"no place at all, in x", box(25, 20, 15, 40, 100, 200), false},
		{"no place at all, in y", box(10, 35, 30, 25, 100, 200), false},
		{"everything", box(small, small, 1<<63-1, 1<<63-1, small, 1<<63-1), true},
		{"nothing", box(1<<63-1, 1<<63-1, small, small, 1<<63-1, small), false},
	} {
		far := box(1000, 1000, 1001, 1001, 150, 150)
		for _, turned := range []bool{false, true} {
			x, y := []api.Box{far, b}, []api.Box{c.other}
			wantI, wantK := 1, 0
			if turned {
				x, y, wantI, wantK = y, x, 0, 1
			}
			if c.name == "everything" {
				wantI, wantK = 0, 0
			}
			if !c.want {
				wantI, wantK = -1, -1
			}
			if i, k := unit.Clash(x, y); i != wantI || k != wantK {
				t.Errorf("%s: %d, %d", c.name, i, k)
			}
		}
	}
	if i, k := unit.Clash([]api.Box{{Level: small}}, []api.Box{{Level: huge}, {Level: small}}); i != 0 || k != 1 {
		t.Errorf("levels of any number: %d, %d", i, k)
	}
}

// P9.7: the first box of the first list decides, then the first one of the other list.
func TestFirstClash(t *testing.T) {
	l, e := unit.Boxes(heron(), planOf(t, heron(), 100, route(10), nil), 2)
	if i, k := unit.Clash(l, l); i != 0 || k != 0 || e != api.OK {
		t.Errorf("with itself: %d, %d, error %v", i, k, e)
	}
	at := func(n int) api.Box { return box(n, n, n, n, n, n) }
	for _, c := range []struct {
		a, b []api.Box
		i, k int
	}{
		{nil, nil, -1, -1},
		{nil, []api.Box{at(1)}, -1, -1},
		{[]api.Box{at(1)}, []api.Box{}, -1, -1},
		{[]api.Box{at(1), at(2), at(3)}, []api.Box{at(9), at(3), at(2), at(2)}, 1, 2},
		{[]api.Box{at(1), at(3), at(2)}, []api.Box{at(9), at(2), at(2), at(3)}, 1, 3},
		{[]api.Box{at(1), at(2), at(3)}, []api.Box{at(4), at(5)}, -1, -1},
	} {
		if i, k := unit.Clash(c.a, c.b); i != c.i || k != c.k {
			t.Errorf("%v and %v: %d, %d", c.a, c.b, i, k)
		}
	}
}

// P9.10: what does not clash is apart, at each time and between the seconds.
func TestApart(t *testing.T) {
	random := rand.New(rand.NewSource(7))
	clashes, apart := 0, 0
	for range 4000 {
		one, _, _, _, legs := somePlan(random)
		other, _, _, _, others := somePlan(random)
		other.Level = one.Level
		a, e := unit.Boxes(one, legs, 1+random.Intn(api.MaxPieces))
		b, otherE := unit.Boxes(other, others, 1+random.Intn(api.MaxPieces))
		if e != api.OK || otherE != api.OK {
			t.Fatalf("error %v, error %v", e, otherE)
		}
		if i, _ := unit.Clash(a, b); i >= 0 {
			clashes++
			continue
		}
		from, to := max(legs[0].Start, others[0].Start), min(legs[len(legs)-1].Leave, others[len(others)-1].Leave)
		if from > to {
			continue
		}
		apart++
		for range 30 {
			time := big.NewRat(int64(from*7+random.Intn((to-from)*7+1)), 7)
			x, y := exactPlace(legs, time)
			otherX, otherY := exactPlace(others, time)
			least := new(big.Rat).SetInt(number(one.Margin + other.Margin))
			if x.Sub(x, otherX).Abs(x).Cmp(least) <= 0 && y.Sub(y, otherY).Abs(y).Cmp(least) <= 0 {
				t.Fatalf("%v and %v are not apart at %v", legs, others, time)
			}
		}
	}
	if clashes < 300 || apart < 300 {
		t.Errorf("%d clashes, %d are apart at the same time", clashes, apart)
	}
}

// exactPlace returns the exact place at a time of legs.
func exactPlace(legs []api.Leg, time *big.Rat) (x, y *big.Rat) {
	return modelPlace(*modelLeg(legs, higher(time)), time)
}
