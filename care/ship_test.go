package care_test

import (
	"math/rand"
	"slices"
	"testing"

	"cresset/api"
	"cresset/care"
)

const size = api.MaxSize

// ship is the hull of the chapter's examples, and deck the water there.
var (
	ship = api.Hull{Tons: 1000, Meta: 500, Centre: 400}
	deck = api.Tank{Long: 1000, Wide: 1000, Deep: 100}
)

// P11.4
func TestStability(t *testing.T) {
	low, high := api.Tank{Long: 1000, Wide: 10, Deep: 1000}, api.Tank{Long: 1000, Wide: 10, Deep: 1000, Floor: size}
	greatest := api.Tank{Long: size, Wide: size, Deep: size, Floor: size}
	for _, c := range []struct {
		name string
		h    api.Hull
		l    []api.Tank
		want int
	}{
		{"the example", ship, nil, 100},
		{"an empty list", ship, []api.Tank{}, 100},
		{"with water", ship, []api.Tank{deck}, 56},
		{"with water in two tanks", ship, []api.Tank{deck, deck}, 19},
		{"a tank without water", ship, []api.Tank{{}}, 100},
		{"a tank without water, with a floor", ship, []api.Tank{{Floor: size}}, 100},
		{"a tank that is not long", ship, []api.Tank{{Wide: size, Deep: size, Floor: size}}, 100},
		{"a tank that is not wide", ship, []api.Tank{{Long: size, Deep: size, Floor: size}}, 100},
		{"a tank that is not deep", ship, []api.Tank{{Long: 12, Wide: 1000, Floor: size}}, 99},
		{"long and narrow", ship, []api.Tank{{Long: 4000, Wide: 250, Deep: 100}}, 127},
		{"water high up", ship, []api.Tank{changed(deck, func(t *api.Tank) { t.Floor = 400 })}, 19},
		{"a ship that is not stable", api.Hull{Tons: 1, Meta: 10, Centre: 20}, nil, -10},
		{"the lowest hull", api.Hull{Tons: 1, Centre: size}, nil, -size},
		{"the highest hull", api.Hull{Tons: api.MaxTons, Meta: size}, nil, size},
		{"rounded down, below 0", api.Hull{Tons: 1}, []api.Tank{{Long: 1, Wide: 1, Deep: 1}}, -1},
		{"an odd depth", api.Hull{Tons: 1, Meta: 1}, []api.Tank{{Long: 100, Wide: 1, Deep: 1}}, 0},
		{"rounded down, above 0", api.Hull{Tons: 1, Meta: 7, Centre: 1}, []api.Tank{{Long: 1, Wide: 1, Deep: 1, Floor: 2}}, 5},
		{"exactly an integer", api.Hull{Tons: 1, Meta: 10}, []api.Tank{{Long: size}}, 10},
		{"a low tank makes it more stable", ship, []api.Tank{low}, 99},
		{"a high one less", ship, []api.Tank{high}, -1},
		{"the greatest tanks in the smallest ship", api.Hull{Tons: 1}, slices.Repeat([]api.Tank{greatest}, 6), -15834},
		{"the greatest tanks in the greatest ship", api.Hull{Tons: api.MaxTons, Meta: size, Centre: size}, slices.Repeat([]api.Tank{greatest}, 6), -5000},
		{"the greatest surfaces in the smallest ship", api.Hull{Tons: 1}, slices.Repeat([]api.Tank{{Long: size, Wide: size}}, 6), -5000000000},
	} {
		if want := modelStability(c.h, c.l); c.want != want {
			t.Errorf("%s: %d is not %d", c.name, c.want, want)
		}
		if n, e := care.Stability(c.h, c.l); n != c.want || e != api.OK {
			t.Errorf("%s: %d, error %d", c.name, n, e)
		}
	}
}

// P11.4
func TestDrain(t *testing.T) {
	tank := func(wide, floor int) api.Tank { return api.Tank{Long: 1000, Wide: wide, Deep: 100, Floor: floor} }
	low, same := api.Tank{Long: size, Wide: 100, Deep: 100}, slices.Repeat([]api.Tank{deck}, 6)
	for _, c := range []struct {
		name  string
		h     api.Hull
		l     []api.Tank
		least int
		want  []int
		e     api.Errno
	}{
		{"the example", ship, []api.Tank{deck}, 60, facts(0), api.OK},
		{"enough with the water", ship, []api.Tank{deck}, 56, nil, api.OK},
		{"just not enough", ship, []api.Tank{deck}, 57, facts(0), api.OK},
		{"just enough without the water", ship, []api.Tank{deck}, 100, facts(0), api.OK},
		{"never enough", ship, []api.Tank{deck}, 101, nil, api.ErrNone},
		{"no tanks, enough", ship, nil, 100, nil, api.OK},
		{"no tanks, not enough", ship, []api.Tank{}, 101, nil, api.ErrNone},
		{"the first ones of six that are equal", ship, same, 30, facts(0, 1, 2, 3, 4), api.OK},
		{"all six", ship, same, 57, facts(0, 1, 2, 3, 4, 5), api.OK},
		{"one of six", ship, same, -69, facts(0), api.OK},
		{"the one that is enough", ship, []api.Tank{tank(10, 0), tank(10, 0), deck}, 90, facts(2), api.OK},
		{"the first one that is enough", ship, []api.Tank{tank(10, 0), deck, tank(900, 0)}, 62, facts(1), api.OK},
		{"not the water that keeps it upright", ship, []api.Tank{deck, low}, 120, facts(0), api.OK},
		{"nor if it comes first", ship, []api.Tank{low, deck}, 131, facts(1), api.OK},
		{"more than with it", ship, []api.Tank{low, deck}, 132, nil, api.ErrNone},
		{"the least that is asked", ship, same, -size, nil, api.OK},
		{"the most that is asked", api.Hull{Tons: 1, Meta: size}, same, size, facts(0, 1, 2, 3, 4, 5), api.OK},
		{"more than it can be", ship, same, size, nil, api.ErrNone},
	} {
		want, e := modelDrain(c.h, c.l, c.least)
		if !slices.Equal(c.want, want) || c.e != e {
			t.Errorf("%s: %v, error %d is not %v, error %d", c.name, c.want, c.e, want, e)
		}
		if l, e := care.Drain(c.h, c.l, c.least); !slices.Equal(l, c.want) || e != c.e {
			t.Errorf("%s: %v, error %d", c.name, l, e)
		}
	}
}

// P11.4
func TestShipErrors(t *testing.T) {
	for _, n := range append(outside(1, api.MaxTons), 0) {
		checkShip(t, changed(ship, func(h *api.Hull) { h.Tons = n }), nil, api.ErrArg)
	}
	seven := make([]api.Tank, 7)
	for _, n := range outside(0, size) {
		checkShip(t, changed(ship, func(h *api.Hull) { h.Meta = n }), nil, api.ErrArg)
		checkShip(t, changed(ship, func(h *api.Hull) { h.Centre = n }), seven, api.ErrArg)
		for _, wrong := range []api.Tank{{Long: n}, {Wide: n}, {Deep: n}, {Floor: n}, {Long: n, Wide: n, Deep: n, Floor: n}} {
			checkShip(t, ship, []api.Tank{wrong}, api.ErrArg)
			checkShip(t, ship, []api.Tank{deck, deck, deck, deck, deck, wrong}, api.ErrArg)
			checkShip(t, ship, append(slices.Clone(seven), wrong), api.ErrArg)
		}
	}
	checkShip(t, api.Hull{}, nil, api.ErrArg)
	checkShip(t, ship, seven, api.ErrLong)
	checkShip(t, ship, make([]api.Tank, 1000), api.ErrLong)
	for _, least := range outside(-size, size) {
		for _, tanks := range [][]api.Tank{nil, {deck}, make([]api.Tank, 6)} {
			if l, e := care.Drain(ship, tanks, least); len(l) > 0 || e != api.ErrRange {
				t.Errorf("at least %d: %v, error %d", least, l, e)
			}
		}
	}
	for _, h := range []api.Hull{{Tons: 1}, {Tons: api.MaxTons, Meta: size, Centre: size}} {
		if n, e := care.Stability(h, make([]api.Tank, 6)); n != h.Meta-h.Centre || e != api.OK {
			t.Errorf("%v: %d, error %d", h, n, e)
		}
	}
}

// someShip is a hull with up to six tanks, some of which are equal.
func someShip(random *rand.Rand) (api.Hull, []api.Tank) {
	most := 2 + random.Intn(1<<random.Intn(14))
	n := func() int { return random.Intn(min(most, size+1)) }
	h := api.Hull{Tons: 1 + random.Intn(1<<random.Intn(20)), Meta: n(), Centre: n()}
	var l []api.Tank
	for range random.Intn(7) {
		if len(l) > 0 && random.Intn(4) == 0 {
			l = append(l, l[random.Intn(len(l))])
		} else {
			l = append(l, api.Tank{Long: n(), Wide: n(), Deep: n(), Floor: n()})
		}
	}
	return h, l
}

// P11.4
func TestShipIsAsTheChapterSays(t *testing.T) {
	random := rand.New(rand.NewSource(4))
	drained := map[int]int{}
	for range 1500 {
		h, l := someShip(random)
		n, e := care.Stability(h, l)
		if n != modelStability(h, l) || e != api.OK {
			t.Fatalf("%v with %v: %d, error %d", h, l, n, e)
		}
		for _, least := range []int{n, n + 1, n + random.Intn(100), h.Meta - h.Centre, h.Meta - h.Centre - random.Intn(10), random.Intn(2*size+1) - size} {
			least = min(max(-size, least), size)
			want, wantError := modelDrain(h, l, least)
			got, e := care.Drain(h, l, least)
			if !slices.Equal(got, want) || e != wantError {
				t.Fatalf("%v with %v, at least %d: %v, error %d", h, l, least, got, e)
			}
			drained[len(got)]++
		}
	}
	for n := range 7 {
		if drained[n] < 10 {
			t.Errorf("%d tanks were drained %d times", n, drained[n])
		}
	}
}

// P11.8: with the tanks of Drain empty it is enough, with fewer empty ones never.
func TestDrainFollows(t *testing.T) {
	random := rand.New(rand.NewSource(5))
	for range 1500 {
		h, l := someShip(random)
		least := min(max(-size, h.Meta-h.Centre-random.Intn(30)), size)
		empty, e := care.Drain(h, l, least)
		for _, s := range modelSets(len(l)) {
			n, _ := care.Stability(h, modelWithout(l, s))
			enough := n >= least
			if e == api.OK && slices.Equal(s, empty) != enough && (len(s) < len(empty) || slices.Equal(s, empty)) || e == api.ErrNone && enough {
				t.Fatalf("%v with %v, at least %d: %v, error %d; %v: %d", h, l, least, empty, e, s, n)
			}
		}
	}
}
