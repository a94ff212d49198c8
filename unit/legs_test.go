package unit_test

import (
	"math/rand"
	"slices"
	"testing"

	"cresset/api"
	"cresset/unit"
)

// P9.3, P9.4
func TestUnderWay(t *testing.T) {
	legs := planOf(t, heron(), 100, route(10), nil)
	for _, c := range []struct {
		time      int
		low, high api.Spot
		left      int
	}{
		{100, spot(0, 0), spot(0, 0), 1000},
		{101, spot(1, 0), spot(1, 0), 999},
		{250, spot(150, 0), spot(150, 0), 850},
		{399, spot(299, 0), spot(299, 0), 701},
		{400, spot(300, 0), spot(300, 0), 700},
		{405, spot(300, 0), spot(300, 0), 695},
		{410, spot(300, 0), spot(300, 0), 690},
		{411, spot(300, 1), spot(300, 1), 689},
		{510, spot(300, 100), spot(300, 100), 590},
		{511, spot(299, 99), spot(300, 100), 589}, // (299.05.., 99.68..)
		{826, spot(0, 0), spot(1, 1), 274},
		{827, spot(0, 0), spot(0, 0), 273},
	} {
		low, high, e := unit.Where(legs, c.time)
		if low != c.low || high != c.high || e != api.OK {
			t.Errorf("at %d: %v to %v, error %v", c.time, low, high, e)
		}
		if n := leftAt(t, heron(), legs, c.time); n != c.left {
			t.Errorf("at %d: %d is left", c.time, n)
		}
	}
}

// P9.3: coordinates are rounded down, and up, also below 0 and back.
func TestWhereRounds(t *testing.T) {
	legs := []api.Leg{
		{From: spot(1, 1), To: spot(-1, 2), Start: 0, Arrive: 4, Leave: 4},
		{From: spot(-1, 2), To: spot(-2, -2), Start: 4, Arrive: 7, Leave: 7},
	}
	for time, want := range [][2]api.Spot{
		{spot(1, 1), spot(1, 1)},
		{spot(0, 1), spot(1, 2)},
		{spot(0, 1), spot(0, 2)},
		{spot(-1, 1), spot(0, 2)},
		{spot(-1, 2), spot(-1, 2)},
		{spot(-2, 0), spot(-1, 1)},
		{spot(-2, -1), spot(-1, 0)},
		{spot(-2, -2), spot(-2, -2)},
	} {
		low, high, e := unit.Where(legs, time)
		if low != want[0] || high != want[1] || e != api.OK {
			t.Errorf("at %d: %v to %v, error %v", time, low, high, e)
		}
	}
}

// P9.4: what burns until the end of the leg is rounded down.
func TestLeftRounds(t *testing.T) {
	u := changed(heron(), func(u *api.Unit) { u.Burn = 1000 })
	for _, c := range []struct{ time, left int }{{0, 12}, {2, 12}, {3, 11}, {6, 11}, {7, 10}, {10, 10}} {
		if n := leftAt(t, u, []api.Leg{leg(0, 3, 0, 8, 10, 10)}, c.time); n != c.left {
			t.Errorf("at %d: %d is left", c.time, n)
		}
	}
	if n := leftAt(t, changed(u, func(u *api.Unit) { u.Burn = 0 }), []api.Leg{leg(0, 3, 0, 8, 10, 10)}, 3); n != 10 {
		t.Errorf("%d is left of what does not burn", n)
	}
	u.Burn = api.MaxBurn
	if n := leftAt(t, u, []api.Leg{leg(-place, place, 0, latest, latest, api.MaxFuel)}, 0); n != api.MaxFuel+312749974122 {
		t.Errorf("%d is the most that can be left", n)
	}
}

// P9.3, P9.4: the leg is the first one that is not over before.
func TestFirstLeg(t *testing.T) {
	legs := []api.Leg{leg(0, 1, 5, 7, 9, 20), leg(1, 1, 9, 9, 9, 15), leg(1, 1, 9, 9, 9, 17), leg(1, 3, 9, 10, 30, 5)}
	for _, c := range []struct{ time, x, left int }{{5, 0, 24}, {7, 1, 22}, {9, 1, 20}, {10, 3, 25}, {30, 3, 5}} {
		low, high, e := unit.Where(legs, c.time)
		if low != spot(c.x, 0) || high != low || e != api.OK {
			t.Errorf("at %d: %v to %v, error %v", c.time, low, high, e)
		}
		if n := leftAt(t, heron(), legs, c.time); n != c.left {
			t.Errorf("at %d: %d is left", c.time, n)
		}
	}
	if n := leftAt(t, heron(), legs[1:], 9); n != 15 {
		t.Errorf("%d is left at first", n)
	}
}

// P9.3, P9.4
func TestRightLegs(t *testing.T) {
	for _, legs := range rightLegs() {
		for _, time := range []int{legs[0].Start, legs[len(legs)-1].Leave} {
			want := *modelLeg(legs, time)
			low, high, e := unit.Where(legs, time)
			if wantLow, wantHigh := modelWhere(want, time); low != wantLow || high != wantHigh || e != api.OK {
				t.Errorf("at %d of %v: %v to %v, error %v", time, legs, low, high, e)
			}
			if n := leftAt(t, heron(), legs, time); n != modelLeft(heron(), want, time) {
				t.Errorf("at %d of %v: %d is left", time, legs, n)
			}
		}
	}
}

// where returns the error of Where; nothing may come beside it.
func whereError(t *testing.T, legs []api.Leg, time int) api.Errno {
	t.Helper()
	low, high, e := unit.Where(legs, time)
	if e != api.OK && (low != spot(0, 0) || high != spot(0, 0)) {
		t.Errorf("%v, %v, error %v", low, high, e)
	}
	return e
}

// leftError returns the error of Left; nothing may come beside it.
func leftError(t *testing.T, u api.Unit, legs []api.Leg, time int) api.Errno {
	t.Helper()
	n, e := unit.Left(u, legs, time)
	if e != api.OK && n != 0 {
		t.Errorf("%d, error %v", n, e)
	}
	return e
}

// P9.3, P9.4
func TestUnderWayErrors(t *testing.T) {
	times := []int{0, 5, 8, latest, -1, huge, small}
	for _, legs := range wrongLegs() {
		for _, time := range times {
			if e := whereError(t, legs, time); e != api.ErrArg {
				t.Errorf("Where at %d of %v: error %v", time, legs, e)
			}
			if e := leftError(t, heron(), legs, time); e != api.ErrArg {
				t.Errorf("Left at %d of %v: error %v", time, legs, e)
			}
		}
	}
	right := []api.Leg{leg(3, 1, 5, 7, 9, 20), leg(1, 2, 9, 10, 11, 15)}
	for _, u := range wrongUnits() {
		for _, time := range append(times, 10) {
			if e := leftError(t, u, right, time); e != api.ErrArg {
				t.Errorf("Left of %+v at %d: error %v", u, time, e)
			}
		}
	}
	for _, time := range []int{4, 0, -1, small, 12, latest, latest + 1, huge} {
		if e := whereError(t, right, time); e != api.ErrNone {
			t.Errorf("Where at %d: error %v", time, e)
		}
		if e := leftError(t, heron(), right, time); e != api.ErrNone {
			t.Errorf("Left at %d: error %v", time, e)
		}
	}
}

// someLegs returns valid legs that need no plan.
func someLegs(random *rand.Rand, most, longest int) []api.Leg {
	number := func() int { return random.Intn(2*most+1) - most }
	at, now := spot(number(), number()), random.Intn(longest)
	var legs []api.Leg
	for range 1 + random.Intn(5) {
		l := api.Leg{From: at, To: spot(number(), number()), Start: now, Fuel: random.Intn(1000)}
		l.Arrive = now + random.Intn(longest)*random.Intn(2)
		if l.Arrive == now {
			l.To = at
		}
		l.Leave = l.Arrive + random.Intn(longest)*random.Intn(2)
		legs = append(legs, l)
		at, now = l.To, l.Leave
	}
	return legs
}

// P9.3, P9.4
func TestUnderWayByTheText(t *testing.T) {
	random := rand.New(rand.NewSource(4))
	for range 3000 {
		u, legs := someUnit(random), someLegs(random, 1<<random.Intn(25), 1+random.Intn(1<<random.Intn(26)))
		first, last := legs[0].Start, legs[len(legs)-1].Leave
		for range 20 {
			time := first - 2 + random.Intn(last-first+5)
			if random.Intn(3) == 0 {
				time = legs[random.Intn(len(legs))].Leave
			}
			want := modelLeg(legs, time)
			if want == nil {
				if whereError(t, legs, time) != api.ErrNone || leftError(t, u, legs, time) != api.ErrNone {
					t.Fatalf("at %d of %v: no error", time, legs)
				}
				continue
			}
			low, high, e := unit.Where(legs, time)
			if wantLow, wantHigh := modelWhere(*want, time); low != wantLow || high != wantHigh || e != api.OK {
				t.Fatalf("at %d of %v: %v to %v, error %v", time, legs, low, high, e)
			}
			if n := leftAt(t, u, legs, time); n != modelLeft(u, *want, time) {
				t.Fatalf("%+v at %d of %v: %d is left", u, time, legs, n)
			}
		}
	}
}

// again returns whether there is a new plan.
func again(t *testing.T, u api.Unit, legs []api.Leg, time int, l []api.Way, sky []api.Front) refusal {
	t.Helper()
	next, at, why, e := unit.Again(u, legs, time, l, sky)
	return refused(t, next, at, why, e)
}

// P9.5
func TestAgain(t *testing.T) {
	legs := planOf(t, heron(), 100, route(10), nil)
	for _, c := range []struct {
		time int
		l    []api.Way
		want []api.Leg
	}{
		{250, []api.Way{way(150, 20, 4)}, []api.Leg{
			{From: spot(150, 0), To: spot(150, 20), Start: 250, Arrive: 270, Leave: 274, Fuel: 826},
			{From: spot(150, 20), Start: 274, Arrive: 426, Leave: 426, Fuel: 674},
		}},
		{250, nil, []api.Leg{leg(150, 0, 250, 400, 400, 700)}},
		{405, []api.Way{}, []api.Leg{leg(300, 0, 405, 705, 705, 395)}},
		{511, []api.Way{way(299, 99, 0)}, []api.Leg{
			{From: spot(299, 99), To: spot(299, 99), Start: 511, Arrive: 511, Leave: 511, Fuel: 589},
			{From: spot(299, 99), Start: 511, Arrive: 826, Leave: 826, Fuel: 274},
		}},
		{827, nil, []api.Leg{leg(0, 0, 827, 827, 827, 273)}},
		{100, []api.Way{way(1, 0, 0)}, []api.Leg{leg(0, 1, 100, 101, 101, 999), leg(1, 0, 101, 102, 102, 998)}},
	} {
		next, at, why, e := unit.Again(heron(), legs, c.time, c.l, nil)
		if !slices.Equal(next, c.want) || at != -1 || why != 0 || e != api.OK {
			t.Errorf("at %d: %v, %d, %d, error %v", c.time, next, at, why, e)
		}
	}
}

// P9.5: the fuel is that of the legs, more than the unit's own or less; the hours count from the first leg's start on, the time does from t on.
func TestAgainReasons(t *testing.T) {
	u := changed(heron(), func(u *api.Unit) { u.Hours = 40 })
	legs := []api.Leg{leg(0, 10, 100, 110, 120, 125), leg(10, 20, 120, 130, 130, 115)}
	late := []api.Leg{leg(0, 10, latest-12, latest-2, latest, 125)}
	calm := changed(heron(), func(u *api.Unit) { u.Burn, u.Hours = 0, latest })
	for _, c := range []struct {
		name string
		u    api.Unit
		legs []api.Leg
		time int
		l    []api.Way
		sky  []api.Front
		want refusal
	}{
		{"home in time", u, legs, 120, []api.Way{way(10, 0, 10)}, nil, goes},
		{"home too late", u, legs, 120, []api.Way{way(10, 0, 11)}, nil, stops(0, api.NoHours)},
		{"home too late by the second way", u, legs, 120, []api.Way{way(10, 0, 10), way(11, 0, 0)}, nil, stops(1, api.NoHours)},
		{"just enough fuel", changed(u, func(u *api.Unit) { u.Hours = 400 }), legs, 120, []api.Way{way(10, 0, 15)}, nil, goes},
		{"not enough fuel", changed(u, func(u *api.Unit) { u.Hours = 400 }), legs, 120, []api.Way{way(10, 0, 16)}, nil, stops(0, api.NoFuel)},
		{"the way home is too long", changed(u, func(u *api.Unit) { u.Hours = 400 }), legs, 130, nil, nil, stops(0, api.NoFuel)},
		{"the way home takes too much time", changed(u, func(u *api.Unit) { u.Hours, u.Burn = 49, 0 }), legs, 130, nil, nil, stops(0, api.NoHours)},
		{"the way home takes just that time", changed(u, func(u *api.Unit) { u.Hours, u.Burn = 50, 0 }), legs, 130, nil, nil, goes},
		{"fuel that the unit cannot have", changed(heron(), func(u *api.Unit) { u.Fuel, u.Reserve = 0, 0 }), []api.Leg{leg(0, 10, 0, 10, 10, 500)}, 10, []api.Way{way(10, 0, 490)}, nil, goes},
		{"home at the last time", calm, late, latest - 12, []api.Way{way(3, 0, 6)}, nil, goes},
		{"home after it", calm, late, latest - 12, []api.Way{way(3, 0, 7)}, nil, stops(0, api.NoTime)},
		{"home after it without a way", calm, late, latest, nil, nil, stops(0, api.NoTime)},
		{"weather where it is", heron(), []api.Leg{leg(0, 10, 100, 110, 120, 900)}, 115, nil, []api.Front{{From: 115, To: 115, Low: spot(10, 0), High: spot(10, 0), Sea: 9}}, stops(0, api.NoWeather)},
		{"weather where it was", heron(), []api.Leg{leg(0, 10, 100, 110, 120, 900)}, 115, nil, []api.Front{{From: 100, To: 114, Low: spot(0, 0), High: spot(10, 0), Sea: 9}}, goes},
		{"weather at home", heron(), []api.Leg{leg(0, 10, 100, 110, 120, 900)}, 115, nil, []api.Front{{From: 125, To: 130, Low: spot(-9, -9), High: spot(0, 0), Sea: 9}}, stops(0, api.NoWeather)},
		{"weather at home, behind the way", heron(), []api.Leg{leg(0, 10, 100, 110, 120, 900)}, 115, []api.Way{way(20, 0, 0)}, []api.Front{{From: 145, To: 145, Low: spot(-9, -9), High: spot(0, 0), Sea: 9}}, stops(0, api.NoWeather)},
	} {
		if got := again(t, c.u, c.legs, c.time, c.l, c.sky); got != c.want {
			t.Errorf("%s: %v", c.name, got)
		}
	}
}

// P9.5
func TestAgainErrors(t *testing.T) {
	legs := []api.Leg{leg(0, 10, 100, 110, 120, 900)}
	tooMany := make([]api.Way, api.MaxRoute+1)
	check := func(what string, u api.Unit, legs []api.Leg, l []api.Way, sky []api.Front, e api.Errno) {
		t.Helper()
		for _, time := range []int{100, 115, 120} {
			if got := again(t, u, legs, time, l, sky); got != (refusal{-1, 0, e}) {
				t.Errorf("%s: %v", what, got)
			}
		}
		for _, time := range []int{99, 121, -1, huge, small} {
			want := refusal{-1, 0, api.ErrNone}
			if e == api.ErrArg {
				want.e = e
			}
			if got := again(t, u, legs, time, l, sky); got != want {
				t.Errorf("%s: %v", what, got)
			}
		}
	}
	check("the most ways", heron(), legs, tooMany[1:], make([]api.Front, api.MaxSky), api.OK)
	check("one way more", heron(), legs, tooMany, nil, api.ErrLong)
	for _, u := range wrongUnits() {
		check("a wrong unit", u, legs, nil, nil, api.ErrArg)
		check("a wrong unit, and too many ways", u, legs, tooMany, nil, api.ErrArg)
	}
	for _, wrong := range wrongLegs() {
		check("wrong legs", heron(), wrong, nil, nil, api.ErrArg)
		check("wrong legs, and too many ways", heron(), wrong, tooMany, nil, api.ErrArg)
	}
	for _, sky := range wrongSkies() {
		check("wrong weather", heron(), legs, nil, sky, api.ErrArg)
		check("wrong weather, and too many ways", heron(), legs, tooMany, sky, api.ErrArg)
	}
	for _, w := range wrongWays() {
		check("a wrong way", heron(), legs, []api.Way{w}, nil, api.ErrArg)
		check("a wrong way behind one that cannot be gone", heron(), legs, []api.Way{way(place, 0, 0), w}, nil, api.ErrArg)
		check("a wrong way, and too many", heron(), legs, append(slices.Clone(tooMany), w), nil, api.ErrArg)
	}
}

// P9.5
func TestAgainByTheText(t *testing.T) {
	random := rand.New(rand.NewSource(5))
	var seen [5]int
	for range 20000 {
		u, legs, l, sky := someUnit(random), someLegs(random, 200, 200), someRoute(random), someSky(random)
		first, last := legs[0].Start, legs[len(legs)-1].Leave
		if random.Intn(8) == 0 {
			for i := range legs {
				legs[i].Start, legs[i].Arrive, legs[i].Leave = legs[i].Start+latest-last, legs[i].Arrive+latest-last, legs[i].Leave+latest-last
			}
			first, last = legs[0].Start, latest
		}
		for i := range sky {
			sky[i].From, sky[i].To = min(sky[i].From%500+first, latest), min(sky[i].To+first, latest)
			sky[i].To = max(sky[i].From, sky[i].To)
		}
		time := first + random.Intn(last-first+1)
		under := *modelLeg(legs, time)
		low, _ := modelWhere(under, time)
		left := modelLeft(u, under, time)
		want, wantAt, wantWhy := modelPlan(u, first, low, time, left, l, sky)
		if len(l) == 0 {
			want, wantAt, wantWhy = modelPlan(u, first, low, time, left, []api.Way{{To: low}}, sky)
			want = want[min(1, len(want)):]
		}
		next, at, why, e := unit.Again(u, legs, time, l, sky)
		if !slices.Equal(next, want) || at != wantAt || why != wantWhy || (e == api.OK) != (why == 0) || why != 0 && e != api.ErrState {
			t.Fatalf("%+v at %d of %v for %v in %v: %v, %d, %d, error %v, not %v, %d, %d", u, time, legs, l, sky, next, at, why, e, want, wantAt, wantWhy)
		}
		seen[why]++
	}
	for why, n := range seen {
		if n < 300 {
			t.Errorf("the reason %d came just %d times", why, n)
		}
	}
}
