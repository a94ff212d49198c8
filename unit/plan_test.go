package unit_test

import (
	"math/rand"
	"slices"
	"testing"

	"cresset/api"
	"cresset/unit"
)

// refusal is why there is no plan.
type refusal struct {
	at, why int
	e       api.Errno
}

// refused returns why there is no plan; nothing may come beside it.
func refused(t *testing.T, legs []api.Leg, at, why int, e api.Errno) refusal {
	t.Helper()
	if (e != api.OK) != (len(legs) == 0) || (e == api.ErrState) != (why != 0) || (e == api.ErrState) != (at >= 0) {
		t.Errorf("%v, %d, %d, error %v", legs, at, why, e)
	}
	return refusal{at, why, e}
}

// planned returns whether there is a plan.
func planned(t *testing.T, u api.Unit, start int, l []api.Way, sky []api.Front) refusal {
	t.Helper()
	legs, at, why, e := unit.Plan(u, start, l, sky)
	return refused(t, legs, at, why, e)
}

var goes = refusal{-1, 0, api.OK}

func stops(at, why int) refusal {
	return refusal{at, why, api.ErrState}
}

// P9.2
func TestPlan(t *testing.T) {
	want := []api.Leg{
		{To: spot(300, 0), Start: 100, Arrive: 400, Leave: 410, Fuel: 690},
		{From: spot(300, 0), To: spot(300, 100), Start: 410, Arrive: 510, Leave: 510, Fuel: 590},
		{From: spot(300, 100), Start: 510, Arrive: 827, Leave: 827, Fuel: 273},
	}
	if got := planOf(t, heron(), 100, route(10), nil); !slices.Equal(got, want) {
		t.Errorf("%v", got)
	}
	if got := planned(t, heron(), 100, route(183), nil); got != goes {
		t.Errorf("with 183 s: %v", got)
	}
	if got := planned(t, heron(), 100, route(184), nil); got != stops(1, api.NoFuel) {
		t.Errorf("with 184 s: %v", got)
	}
}

// P9.2: what a unit burns, and its times, are rounded up leg by leg.
func TestPlanRounds(t *testing.T) {
	u := changed(heron(), func(u *api.Unit) { u.Speed, u.Burn, u.Base = 7000, 1000, spot(5, 5) })
	want := []api.Leg{
		{From: spot(5, 5), To: spot(6, 6), Start: 0, Arrive: 2, Leave: 2, Fuel: 999},
		{From: spot(6, 6), To: spot(6, 6), Start: 2, Arrive: 2, Leave: 5, Fuel: 998},
		{From: spot(6, 6), To: spot(6, 16), Start: 5, Arrive: 11, Leave: 11, Fuel: 996},
		{From: spot(6, 16), To: spot(5, 5), Start: 11, Arrive: 18, Leave: 18, Fuel: 994},
	}
	if got := planOf(t, u, 0, []api.Way{way(6, 6, 0), way(6, 6, 3), way(6, 16, 0)}, nil); !slices.Equal(got, want) {
		t.Errorf("%v", got)
	}
}

// P9.2: without ways a unit can always go on.
func TestPlanOfNothing(t *testing.T) {
	u := changed(heron(), func(u *api.Unit) { u.Base, u.Reserve, u.Hours = spot(place, -3), 1000, 0 })
	for _, start := range []int{0, 7, latest} {
		want := []api.Leg{{From: u.Base, To: u.Base, Start: start, Arrive: start, Leave: start, Fuel: 1000}}
		for _, l := range [][]api.Way{nil, {}} {
			if got := planOf(t, u, start, l, []api.Front{storm(start)}); !slices.Equal(got, want) {
				t.Errorf("from %d: %v", start, got)
			}
		}
	}
}

// P9.2: the bound of each reason.
func TestReasons(t *testing.T) {
	long := changed(heron(), func(u *api.Unit) { u.Hours, u.Burn, u.Fuel, u.Reserve = latest, 0, 0, 0 })
	for _, c := range []struct {
		name  string
		u     api.Unit
		start int
		l     []api.Way
		want  refusal
	}{
		{"home at the last time", long, latest - 25, []api.Way{way(10, 0, 5)}, goes},
		{"home after it", long, latest - 25, []api.Way{way(10, 0, 6)}, stops(0, api.NoTime)},
		{"home long after it", long, latest, []api.Way{way(place, place, latest)}, stops(0, api.NoTime)},
		{"the slowest one", changed(long, func(u *api.Unit) { u.Speed, u.Base = 1, spot(-place, -place) }), 0, []api.Way{way(place, place, latest)}, stops(0, api.NoTime)},
		{"the slowest one, which burns most", changed(long, func(u *api.Unit) { u.Speed, u.Base, u.Burn = 1, spot(-place, -place), api.MaxBurn }), latest, []api.Way{way(place, place, latest)}, stops(0, api.NoTime)},
		{"the second way is too late", long, latest - 30, []api.Way{way(10, 0, 0), way(11, 0, 8), way(12, 0, 0)}, stops(2, api.NoTime)},
		{"just what must be kept", heron(), 0, []api.Way{way(450, 0, 0)}, goes},
		{"less than that", heron(), 0, []api.Way{way(450, 0, 1)}, stops(0, api.NoFuel)},
		{"less than that, as the way home burns too", heron(), 0, []api.Way{way(451, 0, 0)}, stops(0, api.NoFuel)},
		{"less than nothing", heron(), 0, []api.Way{way(5000, 0, 0)}, stops(0, api.NoFuel)},
		{"nothing is left and must be", changed(heron(), func(u *api.Unit) { u.Reserve = 0 }), 0, []api.Way{way(500, 0, 0)}, goes},
		{"too far home, though not there", heron(), 0, []api.Way{way(400, 0, 0), way(600, 0, 0)}, stops(1, api.NoFuel)},
		{"at the end of the hours", changed(heron(), func(u *api.Unit) { u.Hours = 205 }), 50, []api.Way{way(100, 0, 5)}, goes},
		{"after them", changed(heron(), func(u *api.Unit) { u.Hours = 204 }), 50, []api.Way{way(100, 0, 5)}, stops(0, api.NoHours)},
		{"after them, by all ways together", changed(heron(), func(u *api.Unit) { u.Hours = 212 }), 50, []api.Way{way(100, 0, 5), way(101, 0, 6)}, stops(1, api.NoHours)},
		{"no hours, and no way", changed(heron(), func(u *api.Unit) { u.Hours = 0 }), 50, []api.Way{way(0, 0, 0)}, goes},
		{"no hours", changed(heron(), func(u *api.Unit) { u.Hours = 0 }), 50, []api.Way{way(0, 0, 0), way(0, 0, 1)}, stops(1, api.NoHours)},
	} {
		if got := planned(t, c.u, c.start, c.l, nil); got != c.want {
			t.Errorf("%s: %v", c.name, got)
		}
	}
}

// P9.2: the reason that is named first is the one.
func TestFirstReason(t *testing.T) {
	for reasons := range 16 {
		u, start, want := changed(heron(), func(u *api.Unit) { u.Burn, u.Hours = 0, latest }), 500, goes
		var sky []api.Front
		if reasons&8 != 0 {
			want = stops(1, api.NoWeather)
		}
		if reasons&4 != 0 {
			u.Hours, want = 100, stops(1, api.NoHours)
		}
		if reasons&2 != 0 {
			u.Burn, want = api.MaxBurn, stops(1, api.NoFuel)
		}
		if reasons&1 != 0 {
			start, want = latest-100, stops(1, api.NoTime)
		}
		if reasons&8 != 0 {
			sky = []api.Front{storm(start + 1)}
		}
		if got := planned(t, u, start, []api.Way{way(0, 0, 0), way(100, 0, 0), way(1000, 0, 0)}, sky); got != want {
			t.Errorf("%04b: %v", reasons, got)
		}
	}
}

// P9.2: weather is too bad from above the unit's sea or wind on, where and when the unit is, with closed intervals.
func TestWeatherOfPlan(t *testing.T) {
	// Out from 100 to 110, there until 130, home until 140.
	u := changed(heron(), func(u *api.Unit) { u.Base = spot(20, 30) })
	l := []api.Way{way(10, 30, 20)}
	bad := func(from, to, lowX, lowY, highX, highY int) api.Front {
		return api.Front{From: from, To: to, Low: spot(lowX, lowY), High: spot(highX, highY), Sea: 6}
	}
	weather := stops(0, api.NoWeather)
	for _, c := range []struct {
		name string
		f    api.Front
		want refusal
	}{
		{"all along", bad(0, 1000, 0, 0, 100, 100), weather},
		{"over when it leaves", bad(0, 99, 0, 0, 100, 100), goes},
		{"not over when it leaves", bad(0, 100, 0, 0, 100, 100), weather},
		{"when it is home", bad(140, 200, 0, 0, 100, 100), weather},
		{"when it was home", bad(141, 200, 0, 0, 100, 100), goes},
		{"while it is there", bad(120, 120, 10, 30, 10, 30), weather},
		{"while it is there, at the base", bad(120, 120, 20, 30, 20, 30), weather},
		{"on its way home", bad(131, 139, 15, 30, 15, 30), weather},
		{"to the west", bad(0, 1000, 0, 0, 9, 100), goes},
		{"at the west", bad(0, 1000, 0, 0, 10, 100), weather},
		{"to the east", bad(0, 1000, 21, 0, 100, 100), goes},
		{"at the east", bad(0, 1000, 20, 0, 100, 100), weather},
		{"to the south", bad(0, 1000, 0, 0, 100, 29), goes},
		{"at the south", bad(0, 1000, 0, 0, 100, 30), weather},
		{"to the north", bad(0, 1000, 0, 31, 100, 100), goes},
		{"at the north", bad(0, 1000, 0, 30, 100, 100), weather},
		{"the most that it can bear", changed(storm(105), func(f *api.Front) { f.Sea, f.Wind = 5, 10 }), goes},
		{"too much wind", changed(storm(105), func(f *api.Front) { f.Sea, f.Wind = 0, 11 }), weather},
		{"too much sea", changed(storm(105), func(f *api.Front) { f.Sea, f.Wind = 6, 10 }), weather},
		{"too much of all", changed(storm(105), func(f *api.Front) { f.Sea, f.Wind = 100, 100 }), weather},
	} {
		calm := changed(storm(105), func(f *api.Front) { f.Sea = 0 })
		for _, sky := range [][]api.Front{{c.f}, {calm, c.f}, {c.f, calm}} {
			if got := planned(t, u, 100, l, sky); got != c.want {
				t.Errorf("%s: %v", c.name, got)
			}
		}
	}
}

// P9.2: the way home counts for each way, from each place, and at its own time.
func TestWeatherOnTheWayHome(t *testing.T) {
	l := []api.Way{way(100, 0, 0), way(100, 100, 0), way(0, 100, 0)}
	for _, c := range []struct {
		f    api.Front
		want refusal
	}{
		{api.Front{From: 201, To: 300, Low: spot(50, 50), High: spot(50, 50), Wind: 11}, stops(1, api.NoWeather)}, // from (100, 100) home
		{api.Front{From: 343, To: 400, Low: spot(50, 50), High: spot(50, 50), Wind: 11}, goes},
		{api.Front{From: 301, To: 400, Low: spot(0, 50), High: spot(0, 50), Wind: 11}, stops(1, api.NoWeather)},
		{api.Front{From: 343, To: 400, Low: spot(0, 50), High: spot(0, 50), Wind: 11}, stops(2, api.NoWeather)},
		{api.Front{From: 401, To: 500, Low: spot(0, 50), High: spot(0, 50), Wind: 11}, goes},
	} {
		if got := planned(t, heron(), 0, l, []api.Front{c.f}); got != c.want {
			t.Errorf("%v: %v", c.f, got)
		}
	}
}

// P9.2
func TestPlanErrors(t *testing.T) {
	tooMany := make([]api.Way, api.MaxRoute+1)
	arg := refusal{-1, 0, api.ErrArg}
	check := func(what string, u api.Unit, start int, l []api.Way, sky []api.Front, want refusal) {
		t.Helper()
		if got := planned(t, u, start, l, sky); got != want {
			t.Errorf("%s: %v", what, got)
		}
	}
	check("the most ways", heron(), 0, tooMany[1:], make([]api.Front, api.MaxSky), goes)
	check("one way more", heron(), 0, tooMany, nil, refusal{-1, 0, api.ErrLong})
	check("many more", heron(), 0, make([]api.Way, 4000), nil, refusal{-1, 0, api.ErrLong})
	check("too many, and the first one cannot be gone", heron(), 0, append([]api.Way{way(place, 0, 0)}, tooMany...), nil, refusal{-1, 0, api.ErrLong})
	for _, u := range wrongUnits() {
		check("a wrong unit", u, 0, route(10), nil, arg)
		check("a wrong unit, without ways", u, 0, nil, nil, arg)
		check("a wrong unit, and too many ways", u, 0, tooMany, nil, arg)
	}
	for _, sky := range wrongSkies() {
		check("wrong weather", heron(), 0, route(10), sky, arg)
		check("wrong weather, without ways", heron(), 0, nil, sky, arg)
		check("wrong weather, and too many ways", heron(), 0, tooMany, sky, arg)
	}
	for _, w := range wrongWays() {
		check("a wrong way", heron(), 0, []api.Way{w}, nil, arg)
		check("a wrong way behind one that cannot be gone", heron(), 0, []api.Way{way(place, 0, 0), w}, nil, arg)
		check("a wrong way, and too many", heron(), 0, append(slices.Clone(tooMany), w), nil, arg)
	}
	for _, start := range outside(latest) {
		check("a wrong start", heron(), start, route(10), nil, arg)
		check("a wrong start, without ways", heron(), start, nil, nil, arg)
		check("a wrong start, and too many ways", heron(), start, tooMany, nil, arg)
	}
}

// P9.2
func TestPlansByTheText(t *testing.T) {
	random := rand.New(rand.NewSource(2))
	var seen [5]int
	for range 20000 {
		u, start, l, sky := someUnit(random), random.Intn(2000), someRoute(random), someSky(random)
		if random.Intn(8) == 0 {
			start = latest - random.Intn(2000)
			for i := range sky {
				sky[i].From, sky[i].To = start, latest
			}
		}
		want, wantAt, wantWhy := modelPlan(u, start, u.Base, start, u.Fuel, l, sky)
		legs, at, why, e := unit.Plan(u, start, l, sky)
		if !slices.Equal(legs, want) || at != wantAt || why != wantWhy || (e == api.OK) != (why == 0) || why != 0 && e != api.ErrState {
			t.Fatalf("%+v from %d for %v in %v: %v, %d, %d, error %v, not %v, %d, %d", u, start, l, sky, legs, at, why, e, want, wantAt, wantWhy)
		}
		seen[why]++
	}
	for why, n := range seen {
		if n < 300 {
			t.Errorf("the reason %d came just %d times", why, n)
		}
	}
}

// P9.2: far ways, much fuel, long times.
func TestGreatPlansByTheText(t *testing.T) {
	random := rand.New(rand.NewSource(3))
	for range 5000 {
		far := func() api.Spot { return spot(random.Intn(2*place+1)-place, random.Intn(2*place+1)-place) }
		u := api.Unit{Name: "far", Speed: 1 + random.Intn(1<<random.Intn(20)), Fuel: api.MaxFuel, Burn: random.Intn(api.MaxBurn + 1), Hours: latest, Base: far()}
		l := []api.Way{{To: far(), Stay: random.Intn(1 << random.Intn(31))}, {To: far()}, {To: far(), Stay: random.Intn(1 << random.Intn(31))}}
		start := random.Intn(1 << random.Intn(31))
		want, wantAt, wantWhy := modelPlan(u, start, u.Base, start, u.Fuel, l, nil)
		legs, at, why, _ := unit.Plan(u, start, l, nil)
		if !slices.Equal(legs, want) || at != wantAt || why != wantWhy {
			t.Fatalf("%+v from %d for %v: %v, %d, %d, not %v, %d, %d", u, start, l, legs, at, why, want, wantAt, wantWhy)
		}
	}
}
