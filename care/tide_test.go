package care_test

import (
	"math/rand"
	"testing"

	"cresset/api"
	"cresset/care"
)

// aground is the ship of the chapter's examples, which comes off from a height of 1800 mm on.
func aground() api.Ground {
	return api.Ground{Draught: 5000, Depth: 3000, TonsPerCm: 10, Pull: 100, Friction: 500}
}

// tide returns a tide of times and heights.
func tide(l ...int) []api.Tide {
	var points []api.Tide
	for i := 0; i < len(l); i += 2 {
		points = append(points, api.Tide{Time: l[i], Height: l[i+1]})
	}
	return points
}

// day is the tide of the chapter's examples.
func day() []api.Tide {
	return tide(0, 0, 4000, 4000, 8000, 0)
}

// most is a tide of the most points, a second each.
func most() []api.Tide {
	var l []api.Tide
	for i := range api.MaxTide {
		l = append(l, api.Tide{Time: i, Height: 100 * i})
	}
	return l
}

// P11.5
func TestFloat(t *testing.T) {
	twice := tide(0, 0, 10, 2000, 20, 0, 30, 2000, 40, 1000)
	for _, c := range []struct {
		name        string
		g           api.Ground
		l           []api.Tide
		from        int
		first, last int
		e           api.Errno
	}{
		{"the example", aground(), day(), 0, 1800, 6200, api.OK},
		{"from just before it on", aground(), day(), 1799, 1800, 6200, api.OK},
		{"from the first time on", aground(), day(), 1800, 1800, 6200, api.OK},
		{"from between on", aground(), day(), 1801, 1801, 6200, api.OK},
		{"from the top on", aground(), day(), 4000, 4000, 6200, api.OK},
		{"from behind the top on", aground(), day(), 4001, 4001, 6200, api.OK},
		{"from the last time on", aground(), day(), 6200, 6200, 6200, api.OK},
		{"from behind it on", aground(), day(), 6201, 0, 0, api.ErrNone},
		{"from the end on", aground(), day(), 8000, 0, 0, api.ErrNone},
		{"a tide too low", aground(), tide(0, 0, 4000, 1799, 8000, 0), 0, 0, 0, api.ErrNone},
		{"a tide that is just high enough", aground(), tide(0, 0, 4000, 1800, 8000, 0), 0, 4000, 4000, api.OK},
		{"a point alone", aground(), tide(7, 1800), 7, 7, 7, api.OK},
		{"a point alone, too low", aground(), tide(7, 1799), 7, 0, 0, api.ErrNone},
		{"a point at the last time", aground(), tide(api.MaxDay, 1800), api.MaxDay, api.MaxDay, api.MaxDay, api.OK},
		{"always", aground(), tide(0, 1800, 10, 1900), 0, 0, 10, api.OK},
		{"at the first time alone", aground(), tide(0, 1800, 10, 0), 0, 0, 0, api.OK},
		{"at the last time alone", aground(), tide(0, 0, 10, 1800), 0, 10, 10, api.OK},
		{"rounded to the times at which it does", aground(), tide(0, 0, 7, 7000, 10, 7000, 17, 0), 0, 2, 15, api.OK},
		{"steep", aground(), tide(3, -100000, 4, 100000, 5, -100000), 3, 4, 4, api.OK},
		{"twice, the first time", aground(), twice, 0, 9, 11, api.OK},
		{"twice, from the first one's end on", aground(), twice, 11, 11, 11, api.OK},
		{"twice, the second time", aground(), twice, 12, 29, 32, api.OK},
		{"over many points", aground(), tide(0, 0, 10, 1800, 20, 1800, 30, 5000, 31, 1801, 40, 1800, 50, 1799, 60, 3000), 0, 10, 40, api.OK},
		{"two that just meet", aground(), tide(0, 1900, 10, 1800, 20, 1900), 0, 0, 20, api.OK},
		{"two that just do not meet", aground(), tide(0, 1900, 10, 1799, 20, 1900), 0, 0, 9, api.OK},
		{"up to the end", aground(), tide(0, 0, 10, 2000, 20, 3000), 0, 9, 20, api.OK},
		{"without tugs", changed(aground(), func(g *api.Ground) { g.Pull = 0 }), day(), 0, 2000, 6000, api.OK},
		{"with tugs that just do", changed(aground(), func(g *api.Ground) { g.Pull = 1000 }), day(), 0, 0, 8000, api.OK},
		{"with tugs that just do not", changed(aground(), func(g *api.Ground) { g.Pull = 999 }), day(), 0, 2, 7998, api.OK},
		{"without friction", changed(aground(), func(g *api.Ground) { g.Pull, g.Friction = 0, 0 }), day(), 0, 0, 8000, api.OK},
		{"less a part of 1 mm", api.Ground{Draught: 10, TonsPerCm: 1, Friction: 1}, tide(0, 0, 100, 11), 0, 91, 100, api.OK},
		{"a tug for a part of 1 mm", api.Ground{Draught: 11, TonsPerCm: 1000, Friction: 1000, Pull: 10}, tide(0, 0, 100, 11), 0, 100, 100, api.OK},
		{"a tug for a tenth of 1 mm more", api.Ground{Draught: 11, TonsPerCm: 1000, Friction: 1000, Pull: 11}, tide(0, 0, 100, 11), 0, 99, 100, api.OK},
		{"afloat", api.Ground{Draught: 1000, Depth: 5000, TonsPerCm: 1000, Friction: 1000}, tide(0, -4000, 10, -4000), 0, 0, 10, api.OK},
		{"on the beach", api.Ground{Draught: 1000, Depth: -5000, TonsPerCm: 1, Friction: 1000}, tide(0, 0, 12, 12000), 0, 6, 12, api.OK},
		{"the most that can be missing", api.Ground{Draught: 100000, Depth: -100000, TonsPerCm: 1000, Pull: 1000000, Friction: 1000}, tide(0, -100000, api.MaxDay, 100000), 0, 0, 0, api.ErrNone},
		{"the longest way to it", api.Ground{Draught: 100000, Depth: 0, TonsPerCm: 1000, Pull: 1000000, Friction: 1000}, tide(0, -100000, api.MaxDay, 100000), 0, 9500000, api.MaxDay, api.OK},
		{"the longest way from it", api.Ground{Draught: 100000, Depth: 0, TonsPerCm: 1000, Pull: 1000000, Friction: 1000}, tide(0, 100000, api.MaxDay, -100000), 0, 0, 500000, api.OK},
		{"the most points", aground(), most(), 0, 18, 99, api.OK},
		{"the last of them", aground(), most(), 99, 99, 99, api.OK},
	} {
		if first, last, e := care.Float(c.g, c.l, c.from); first != c.first || last != c.last || e != c.e {
			t.Errorf("%s: %d, %d, error %d", c.name, first, last, e)
		}
	}
}

// wrongTides are not valid.
func wrongTides() [][]api.Tide {
	l := [][]api.Tide{
		nil, {},
		append(most(), api.Tide{Time: 100}), make([]api.Tide, 1000),
		tide(0, 0, 0, 0), tide(5, 0, 5, 1), tide(5, 0, 4, 0), tide(0, 0, 5, 0, 9, 0, 9, 0), tide(0, 0, 5, 0, 9, 0, 3, 0),
	}
	for _, n := range outside(0, api.MaxDay) {
		l = append(l, tide(n, 0), tide(0, 0, n, 0), tide(n, 0, api.MaxDay, 0))
	}
	for _, n := range outside(-api.MaxHeight, api.MaxHeight) {
		l = append(l, tide(0, n), tide(0, 0, 5, n), tide(0, n, 5, 0))
	}
	return l
}

// wrongGrounds are not valid.
func wrongGrounds() []api.Ground {
	var l []api.Ground
	add := func(least, most int, number func(*api.Ground) *int) {
		for _, n := range outside(least, most) {
			l = append(l, changed(aground(), func(g *api.Ground) { *number(g) = n }))
		}
	}
	add(0, api.MaxHeight, func(g *api.Ground) *int { return &g.Draught })
	add(-api.MaxHeight, api.MaxHeight, func(g *api.Ground) *int { return &g.Depth })
	add(1, 1000, func(g *api.Ground) *int { return &g.TonsPerCm })
	add(0, api.MaxTons, func(g *api.Ground) *int { return &g.Pull })
	add(0, 1000, func(g *api.Ground) *int { return &g.Friction })
	return append(l, api.Ground{})
}

// P11.5
func TestFloatErrors(t *testing.T) {
	check := func(g api.Ground, l []api.Tide, from int, want api.Errno) {
		t.Helper()
		if first, last, e := care.Float(g, l, from); first != 0 || last != 0 || e != want {
			t.Errorf("%+v, %v, from %d: %d, %d, error %d", g, l, from, first, last, e)
		}
	}
	for _, l := range wrongTides() {
		for _, from := range []int{0, -1, 5, 100, huge} {
			check(aground(), l, from, api.ErrArg)
			check(api.Ground{}, l, from, api.ErrArg)
		}
	}
	for _, g := range wrongGrounds() {
		check(g, day(), 0, api.ErrArg)
		check(g, day(), -1, api.ErrArg)
		check(g, tide(0, 1000), 0, api.ErrArg)
	}
	for _, from := range outside(0, 8000) {
		check(aground(), day(), from, api.ErrRange)
		check(aground(), tide(0, -5, 8000, -5), from, api.ErrRange)
	}
	for _, from := range []int{0, 6, 8} {
		check(aground(), tide(7, 5000), from, api.ErrRange)
	}
	for _, g := range []api.Ground{
		{TonsPerCm: 1},
		{Draught: api.MaxHeight, Depth: api.MaxHeight, TonsPerCm: 1000, Pull: api.MaxTons, Friction: 1000},
		{Depth: -api.MaxHeight, TonsPerCm: 1},
	} {
		l := tide(0, api.MaxHeight, api.MaxDay, -api.MaxHeight)
		if _, _, e := care.Float(g, l, 0); e != api.OK {
			t.Errorf("%+v: error %d", g, e)
		}
	}
}

// someGround is a ship that comes off at a height that the tides of someTide often have.
func someGround(random *rand.Rand) api.Ground {
	g := api.Ground{Draught: random.Intn(101), Depth: random.Intn(101) - 50, TonsPerCm: 1 + random.Intn(10), Pull: random.Intn(4), Friction: 1 + random.Intn(1000)}
	if random.Intn(10) == 0 {
		g.Friction = 0
	}
	return g
}

// someTide is a tide of up to so many points, with times that are at most so far from each other.
func someTide(random *rand.Rand, points, apart int) []api.Tide {
	time := random.Intn(apart)
	var l []api.Tide
	for range 1 + random.Intn(points) {
		l = append(l, api.Tide{Time: time, Height: random.Intn(201) - 100})
		time += 1 + random.Intn(apart)
	}
	return l
}

// P11.5: each integer time of short tides.
func TestFloatIsAsTheChapterSays(t *testing.T) {
	random := rand.New(rand.NewSource(6))
	never := 0
	for range 600 {
		g, l := someGround(random), someTide(random, 6, 1+random.Intn(20))
		for from := l[0].Time; from <= l[len(l)-1].Time; from++ {
			wantFirst, wantLast, wantError := modelFloat(g, l, from)
			first, last, e := care.Float(g, l, from)
			if first != wantFirst || last != wantLast || e != wantError {
				t.Fatalf("%+v, %v, from %d: %d, %d, error %d, not %d, %d, error %d", g, l, from, first, last, e, wantFirst, wantLast, wantError)
			}
			if e != api.OK {
				never++
			}
		}
	}
	if never < 100 {
		t.Errorf("never: %d", never)
	}
}

// P11.5: in long tides it is enough to look at the ends of what is found, and at the points: between these the height is on a line.
func TestFloatOverDays(t *testing.T) {
	random := rand.New(rand.NewSource(7))
	for range 3000 {
		g, l := someGround(random), someTide(random, api.MaxTide, api.MaxDay/110)
		if random.Intn(2) == 0 {
			g.Draught, g.Depth = 1000*g.Draught, 1000*g.Depth
			g.Pull *= 1000
			for i := range l {
				l[i].Height *= 1000
			}
		}
		end := l[len(l)-1].Time
		from := l[0].Time + random.Intn(end-l[0].Time+1)
		first, last, e := care.Float(g, l, from)
		var on, off []int // when it has to be aground, and when it has to come off
		switch e {
		case api.OK:
			on, off = []int{first - 1, last + 1}, []int{first, last}
			if first < from || last < first || end < last {
				t.Fatalf("%+v, %v, from %d: %d, %d", g, l, from, first, last)
			}
		case api.ErrNone:
			on, first, last = []int{from, end}, end+1, end+1
		default:
			t.Fatalf("%+v, %v, from %d: error %d", g, l, from, e)
		}
		for _, p := range l {
			switch {
			case p.Time < first:
				on = append(on, p.Time)
			case p.Time <= last:
				off = append(off, p.Time)
			}
		}
		for _, time := range on {
			if from <= time && time <= end && modelComesOff(g, l, time) {
				t.Fatalf("%+v, %v, from %d: %d, %d, but it comes off at %d", g, l, from, first, last, time)
			}
		}
		for _, time := range off {
			if !modelComesOff(g, l, time) {
				t.Fatalf("%+v, %v, from %d: %d, %d, but it does not come off at %d", g, l, from, first, last, time)
			}
		}
	}
}

// P11.8: with a greater pull, or deeper water, it comes off no later.
func TestFloatFollows(t *testing.T) {
	random := rand.New(rand.NewSource(8))
	first := func(g api.Ground, l []api.Tide, from int) int { // huge, if it never comes off
		n, _, e := care.Float(g, l, from)
		if e == api.ErrNone {
			return huge
		}
		if e != api.OK {
			t.Fatalf("%+v, %v, from %d: error %d", g, l, from, e)
		}
		return n
	}
	for range 5000 {
		g, l := someGround(random), someTide(random, 6, 1+random.Intn(1000))
		from := l[0].Time + random.Intn(l[len(l)-1].Time-l[0].Time+1)
		n := first(g, l, from)
		for _, better := range []api.Ground{
			changed(g, func(g *api.Ground) { g.Pull += 1 + random.Intn(5) }),
			changed(g, func(g *api.Ground) { g.Depth += 1 + random.Intn(50) }),
			changed(g, func(g *api.Ground) { g.Draught -= random.Intn(g.Draught + 1) }),
		} {
			if m := first(better, l, from); m > n {
				t.Fatalf("%+v, %v, from %d: %d; %+v: %d", g, l, from, n, better, m)
			}
		}
		var higher []api.Tide
		for _, p := range l {
			higher = append(higher, api.Tide{Time: p.Time, Height: p.Height + 3})
		}
		if m := first(g, higher, from); m > n {
			t.Fatalf("%+v, %v, from %d: %d; %v: %d", g, l, from, n, higher, m)
		}
	}
}
