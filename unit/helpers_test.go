package unit_test

import (
	"math/rand"
	"strings"
	"testing"

	"cresset/api"
	"cresset/unit"
)

const (
	place  = api.MaxPlace
	latest = api.MaxTime
	huge   = 1 << 62
	small  = -1 << 63
)

func spot(x, y int) api.Spot {
	return api.Spot{X: x, Y: y}
}

// way returns a way to a place, with a stay.
func way(x, y, stay int) api.Way {
	return api.Way{To: spot(x, y), Stay: stay}
}

// heron returns the unit of the chapter's examples, which goes 1 m and burns 1 in a second.
func heron() api.Unit {
	return api.Unit{Name: "heron", Speed: 3600, Fuel: 1000, Burn: 3600, Reserve: 100, Hours: 10000, Sea: 5, Wind: 10}
}

// route returns the route of the chapter's examples, with a stay at its first place.
func route(stay int) []api.Way {
	return []api.Way{way(300, 0, stay), way(300, 100, 0)}
}

// storm returns weather that is everywhere, at a time, and too bad for heron.
func storm(time int) api.Front {
	return api.Front{From: time, To: time, Low: spot(-place, -place), High: spot(place, place), Sea: 6}
}

// changed returns a value after a change.
func changed[T any](x T, change func(*T)) T {
	change(&x)
	return x
}

// wrongSpots are not valid.
var wrongSpots = []api.Spot{
	{X: place + 1}, {X: -place - 1}, {Y: place + 1}, {Y: -place - 1}, {X: huge}, {X: small}, {Y: huge}, {Y: small}, {X: small, Y: small},
}

// rightSpots are valid.
var rightSpots = []api.Spot{
	{}, {X: place}, {X: -place}, {Y: place}, {Y: -place}, {X: place, Y: place}, {X: -place, Y: -place}, {X: 3, Y: -4},
}

// outside are numbers that are not from 0 to most.
func outside(most int) []int {
	return []int{-1, most + 1, huge, small, 1<<63 - 1}
}

// longName is the longest name.
var longName = "z" + strings.Repeat("a0-", 10) + "9"

// wrongNames are none.
var wrongNames = []string{"", "1a", "-a", "A", "aB", "a b", "a_", "a.", "ä", "a\x00", "a\xff", "`", "{", "a/", "a:", "a`", "a{", longName + "a", strings.Repeat("a", 1000)}

// wrongUnits are not valid.
func wrongUnits() []api.Unit {
	var l []api.Unit
	add := func(change func(*api.Unit)) {
		l = append(l, changed(heron(), change))
	}
	for _, name := range wrongNames {
		add(func(u *api.Unit) { u.Name = name })
	}
	for _, s := range wrongSpots {
		add(func(u *api.Unit) { u.Base = s })
	}
	for _, n := range append(outside(api.MaxSpeed), 0) {
		add(func(u *api.Unit) { u.Speed = n })
	}
	for _, n := range outside(api.MaxFuel) {
		add(func(u *api.Unit) { u.Fuel = n })
		add(func(u *api.Unit) { u.Fuel, u.Reserve = n, 0 })
	}
	for _, n := range outside(api.MaxBurn) {
		add(func(u *api.Unit) { u.Burn = n })
	}
	for _, n := range outside(1000) {
		add(func(u *api.Unit) { u.Reserve = n })
	}
	for _, n := range outside(latest) {
		add(func(u *api.Unit) { u.Hours = n })
	}
	for _, n := range outside(api.MaxForce) {
		add(func(u *api.Unit) { u.Sea = n })
		add(func(u *api.Unit) { u.Wind = n })
		add(func(u *api.Unit) { u.Level = n })
	}
	for _, n := range outside(100000) {
		add(func(u *api.Unit) { u.Margin = n })
	}
	return append(l, api.Unit{})
}

// rightUnits are valid.
func rightUnits() []api.Unit {
	l := []api.Unit{
		{Name: "a", Speed: 1},
		{Name: longName, Speed: api.MaxSpeed, Fuel: api.MaxFuel, Burn: api.MaxBurn, Reserve: api.MaxFuel, Hours: latest, Sea: api.MaxForce, Wind: api.MaxForce, Base: spot(place, -place), Margin: 100000, Level: 100},
		heron(),
		changed(heron(), func(u *api.Unit) { u.Reserve = u.Fuel }),
		changed(heron(), func(u *api.Unit) { u.Name = "z-9-" }),
	}
	for _, s := range rightSpots {
		l = append(l, changed(heron(), func(u *api.Unit) { u.Base = s }))
	}
	return l
}

// wrongWays are not valid.
func wrongWays() []api.Way {
	var l []api.Way
	for _, s := range wrongSpots {
		l = append(l, api.Way{To: s})
	}
	for _, n := range outside(latest) {
		l = append(l, way(1, 1, n))
	}
	return l
}

// wrongFronts are not valid.
func wrongFronts() []api.Front {
	var l []api.Front
	add := func(change func(*api.Front)) {
		l = append(l, changed(storm(5), change))
	}
	for _, n := range append(outside(latest), 6) {
		add(func(f *api.Front) { f.From = n })
	}
	for _, n := range append(outside(latest), 4) {
		add(func(f *api.Front) { f.To = n })
	}
	for _, n := range outside(api.MaxForce) {
		add(func(f *api.Front) { f.Sea = n })
		add(func(f *api.Front) { f.Wind = n })
	}
	for _, s := range wrongSpots {
		add(func(f *api.Front) { f.Low = s })
		add(func(f *api.Front) { f.High = s })
		add(func(f *api.Front) { f.Low, f.High = s, s })
	}
	add(func(f *api.Front) { f.Low, f.High = spot(1, 0), spot(0, 0) })
	add(func(f *api.Front) { f.Low, f.High = spot(0, 1), spot(0, 0) })
	add(func(f *api.Front) { f.Low, f.High = spot(place, 0), spot(-place, 0) })
	return l
}

// wrongSkies are weather that is not valid.
func wrongSkies() [][]api.Front {
	l := [][]api.Front{make([]api.Front, api.MaxSky+1), make([]api.Front, 5000)}
	for _, f := range wrongFronts() {
		l = append(l, []api.Front{f}, []api.Front{storm(7), {}, f})
	}
	return l
}

// leg returns a leg along x.
func leg(from, to, start, arrive, leave, fuel int) api.Leg {
	return api.Leg{From: spot(from, 0), To: spot(to, 0), Start: start, Arrive: arrive, Leave: leave, Fuel: fuel}
}

// wrongLegs are not valid.
func wrongLegs() [][]api.Leg {
	l := [][]api.Leg{
		nil,
		{},
		{leg(0, 1, 5, 5, 5, 0)},
		{leg(0, 1, 5, 5, 9, 0)},
		{leg(0, 1, 5, 4, 9, 0)},
		{leg(0, 0, 5, 4, 9, 0)},
		{leg(0, 1, 5, 7, 6, 0)},
		{leg(0, 0, 5, 7, 6, 0)},
		{{To: spot(0, 1)}},
		{leg(0, 1, 5, 7, 9, 0), leg(2, 3, 9, 10, 10, 0)},
		{leg(0, 1, 5, 7, 9, 0), leg(1, 3, 8, 10, 10, 0)},
		{leg(0, 1, 5, 7, 9, 0), leg(1, 3, 10, 11, 11, 0)},
		{leg(0, 1, 5, 7, 9, 0), leg(1, 3, 7, 11, 11, 0)},
		{leg(0, 1, 5, 7, 9, 0), {From: spot(1, 1), To: spot(1, 1), Start: 9, Arrive: 9, Leave: 9}},
		{leg(0, 1, 5, 7, 9, 0), leg(0, 1, 5, 7, 9, 0)},
		{leg(0, 1, 5, 7, 9, 0), leg(1, 1, 9, 9, 9, 0), leg(1, 2, 9, 9, 9, 0)},
		{leg(0, 1, 5, 7, 9, 0), leg(1, 1, 9, 9, 9, 0), leg(2, 3, 9, 10, 10, 0)},
	}
	add := func(change func(*api.Leg)) {
		wrong := changed(leg(0, 1, 5, 7, 9, 3), change)
		l = append(l, []api.Leg{wrong})
		l = append(l, []api.Leg{{From: wrong.From, To: wrong.From, Start: wrong.Start, Arrive: wrong.Start, Leave: wrong.Start}, wrong})
		l = append(l, []api.Leg{wrong, {From: wrong.To, To: wrong.To, Start: wrong.Leave, Arrive: wrong.Leave, Leave: wrong.Leave}})
	}
	for _, s := range wrongSpots {
		add(func(l *api.Leg) { l.From = s })
		add(func(l *api.Leg) { l.To = s })
		add(func(l *api.Leg) { l.From, l.To = s, s })
	}
	for _, n := range outside(latest) {
		add(func(l *api.Leg) { l.Start = n })
		add(func(l *api.Leg) { l.Arrive = n })
		add(func(l *api.Leg) { l.Leave = n })
		add(func(l *api.Leg) { l.Start, l.Arrive, l.Leave = n, n, n })
	}
	for _, n := range outside(api.MaxFuel) {
		add(func(l *api.Leg) { l.Fuel = n })
	}
	return l
}

// rightLegs are valid; they do not need to be those of a plan.
func rightLegs() [][]api.Leg {
	return [][]api.Leg{
		{{}},
		{leg(0, 1, 5, 7, 9, api.MaxFuel)},
		{leg(-place, place, 0, latest, latest, 0)},
		{leg(4, 4, 5, 7, 9, 3)},
		{leg(4, 4, 5, 5, 9, 3)},
		{leg(4, 4, latest, latest, latest, 3)},
		{leg(0, 1, 5, 7, 9, 0), leg(1, -3, 9, 10, 10, 5)},
		{leg(0, 1, 5, 7, 9, 2), leg(1, 1, 9, 9, 9, 1), leg(1, 1, 9, 9, 9, 7), leg(1, 3, 9, 10, 30, 5)},
		{{From: spot(place, place), To: spot(-place, -place), Start: 1, Arrive: 2, Leave: 2}},
	}
}

// someUnit returns a unit with a base near (0, 0).
func someUnit(random *rand.Rand) api.Unit {
	u := api.Unit{
		Name: "some", Speed: 1 + random.Intn(7200), Fuel: random.Intn(4000), Burn: random.Intn(9000), Hours: random.Intn(8000),
		Sea: random.Intn(10), Wind: random.Intn(10), Base: someSpot(random), Margin: random.Intn(30), Level: random.Intn(3),
	}
	u.Reserve = random.Intn(u.Fuel/4 + 1)
	return u
}

func someSpot(random *rand.Rand) api.Spot {
	return spot(random.Intn(401)-200, random.Intn(401)-200)
}

// someRoute returns a route near (0, 0).
func someRoute(random *rand.Rand) []api.Way {
	var l []api.Way
	for range random.Intn(6) {
		w := api.Way{To: someSpot(random), Stay: random.Intn(100) * random.Intn(2)}
		if len(l) > 0 && random.Intn(5) == 0 {
			w.To = l[len(l)-1].To
		}
		l = append(l, w)
	}
	return l
}

// someSky returns weather near (0, 0), during a few hours.
func someSky(random *rand.Rand) []api.Front {
	var l []api.Front
	for range random.Intn(4) {
		low, from := someSpot(random), random.Intn(3000)
		l = append(l, api.Front{
			From: from, To: from + random.Intn(500), Low: low, High: spot(low.X+random.Intn(200), low.Y+random.Intn(200)),
			Sea: random.Intn(12), Wind: random.Intn(12),
		})
	}
	return l
}

// somePlan returns a unit and a plan that it can fly, with its start, its route and its weather.
func somePlan(random *rand.Rand) (u api.Unit, start int, l []api.Way, sky []api.Front, legs []api.Leg) {
	for {
		u, start, l, sky = someUnit(random), random.Intn(500), someRoute(random), someSky(random)
		legs, _, _, e := unit.Plan(u, start, l, sky)
		if e == api.OK && len(legs) > random.Intn(4) {
			return u, start, l, sky, legs
		}
	}
}

// planOf returns a plan, without an error.
func planOf(t *testing.T, u api.Unit, start int, l []api.Way, sky []api.Front) []api.Leg {
	t.Helper()
	legs, at, why, e := unit.Plan(u, start, l, sky)
	if at != -1 || why != 0 || e != api.OK {
		t.Fatalf("no plan: %d, %d, error %v", at, why, e)
	}
	return legs
}

// leftAt returns what Left answers, without an error.
func leftAt(t *testing.T, u api.Unit, legs []api.Leg, time int) int {
	t.Helper()
	n, e := unit.Left(u, legs, time)
	if e != api.OK {
		t.Fatalf("Left at %d of %v: error %v", time, legs, e)
	}
	return n
}
