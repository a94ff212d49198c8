package drift_test

import (
	"math/rand"
	"slices"
	"testing"

	"cresset/api"
	"cresset/drift"
)

// wrongGrids are not valid.
var wrongGrids = []api.Grid{
	{}, {W: 5, H: 5}, {W: 0, H: 5, Size: 100}, {W: 5, H: api.MaxWide + 1, Size: 100}, {W: 5, H: 5, Size: api.MaxCell + 1},
	{W: 5, H: 5, Size: 100, Land: []api.Run{{Y: 5, From: 0, To: 1}}}, {W: least, H: most, Size: -1},
}

// wrongRegions are not valid in a grid of 5 times 5 cells.
var wrongRegions = [][]api.Run{
	{{Y: 5, From: 0, To: 1}}, {{Y: -1, From: 0, To: 1}}, {{Y: 0, From: 1, To: 1}}, {{Y: 0, From: 0, To: 6}}, {{Y: 0, From: -1, To: 1}},
	{{Y: 1, From: 0, To: 1}, {Y: 0, From: 0, To: 1}}, {{Y: 0, From: 0, To: 1}, {Y: 0, From: 1, To: 2}}, {{Y: least, From: least, To: most}},
}

// wrongFlows returns flows of the example's grid that are not valid.
func wrongFlows() []api.Flow {
	var l []api.Flow
	change := func(by func(f *api.Flow)) {
		f := flow(cell(1, 1), 1, 2, 3, 4)
		by(&f)
		l = append(l, f)
	}
	for _, n := range []int{-1, api.MaxTime, most, least} {
		change(func(f *api.Flow) { f.From = n })
	}
	for _, n := range []int{0, -1, api.MaxTime + 1, most, least} {
		change(func(f *api.Flow) { f.To = n })
	}
	change(func(f *api.Flow) { f.From, f.To = 5, 5 })
	change(func(f *api.Flow) { f.From, f.To = 6, 5 })
	for _, n := range []int{4, -api.MaxRate - 1, least, most} {
		change(func(f *api.Flow) { f.Low.X = n })
	}
	for _, n := range []int{5, -api.MaxRate - 1, least, most} {
		change(func(f *api.Flow) { f.Low.Y = n })
	}
	for _, n := range []int{0, api.MaxRate + 1, least, most} {
		change(func(f *api.Flow) { f.High.X = n })
	}
	for _, n := range []int{1, api.MaxRate + 1, least, most} {
		change(func(f *api.Flow) { f.High.Y = n })
	}
	for _, r := range wrongRegions {
		change(func(f *api.Flow) { f.Where = r })
	}
	return l
}

// P4.1
func TestCheckFlows(t *testing.T) {
	s := example()
	fit := flow(cell(1, 1), -api.MaxRate, -api.MaxRate, api.MaxRate, api.MaxRate)
	for _, l := range [][]api.Flow{
		nil, {fit}, {flow(nil, 0, 0, 0, 0)}, {flow(s.g.Land, 1, 1, 1, 1)}, {{From: api.MaxTime - 1, To: api.MaxTime}}, {{From: 0, To: 1}},
		slices.Repeat([]api.Flow{fit}, api.MaxFlows),
	} {
		if e := drift.CheckFlows(s.g, api.Flows{Currents: l, Winds: l}); e != api.OK {
			t.Errorf("%v: %v", l, e)
		}
	}
	wrong := [][]api.Flow{slices.Repeat([]api.Flow{fit}, api.MaxFlows+1)}
	for _, f := range wrongFlows() {
		wrong = append(wrong, []api.Flow{f}, []api.Flow{fit, f}, []api.Flow{f, fit})
	}
	for _, l := range wrong {
		if e := drift.CheckFlows(s.g, api.Flows{Currents: l}); e != api.ErrArg {
			t.Errorf("currents %v: %v", l, e)
		}
		if e := drift.CheckFlows(s.g, api.Flows{Currents: []api.Flow{fit}, Winds: l}); e != api.ErrArg {
			t.Errorf("winds %v: %v", l, e)
		}
	}
	for _, g := range wrongGrids {
		if e := drift.CheckFlows(g, api.Flows{}); e != api.ErrArg {
			t.Errorf("grid %v: %v", g, e)
		}
	}
}

// wrongDrifters are not valid.
var wrongDrifters = []api.Drifter{
	{DownLow: -1}, {CrossLow: -1}, {DownLow: 2, DownHigh: 1}, {CrossLow: 2, CrossHigh: 1}, {DownHigh: api.MaxLeeway + 1}, {CrossHigh: api.MaxLeeway + 1},
	{DownLow: api.MaxLeeway + 1, DownHigh: api.MaxLeeway + 1}, {DownLow: least, DownHigh: most}, {CrossLow: most, CrossHigh: most, Jibes: true}, {DownHigh: -1}, {CrossHigh: -1},
}

// P4.1
func TestCheckDrifter(t *testing.T) {
	for _, d := range []api.Drifter{
		{}, {DownHigh: api.MaxLeeway, CrossHigh: api.MaxLeeway}, {DownLow: api.MaxLeeway, DownHigh: api.MaxLeeway, CrossLow: api.MaxLeeway, CrossHigh: api.MaxLeeway, Jibes: true},
		{DownLow: 3, DownHigh: 3, CrossLow: 700, CrossHigh: 701},
	} {
		if e := drift.CheckDrifter(d); e != api.OK {
			t.Errorf("%v: %v", d, e)
		}
	}
	for _, d := range wrongDrifters {
		if e := drift.CheckDrifter(d); e != api.ErrArg {
			t.Errorf("%v: %v", d, e)
		}
	}
}

// wrongPatches returns patches of the example's grid that are not valid.
func wrongPatches() []api.Patch {
	l := []api.Patch{
		{Time: -1}, {Time: api.MaxTime + 1}, {Time: least}, {Time: most},
		{Left: cell(4, 1)}, {Right: cell(4, 1)}, {Left: []api.Run{{Y: 1, From: 0, To: 5}}}, {Right: []api.Run{{Y: 1, From: 3, To: 5}}},
		{Beached: cell(3, 1)}, {Beached: []api.Run{{Y: 1, From: 3, To: 5}}}, {Beached: []api.Run{{Y: 1, From: 4, To: 5}, {Y: 2, From: 0, To: 1}}},
	}
	for _, r := range wrongRegions {
		l = append(l, api.Patch{Left: r}, api.Patch{Right: r}, api.Patch{Beached: r})
	}
	return l
}

// P4.1
func TestCheckPatch(t *testing.T) {
	s := example()
	sea := []api.Run{{Y: 0, From: 0, To: 4}, {Y: 1, From: 1, To: 2}, {Y: 1, From: 3, To: 4}}
	for _, p := range []api.Patch{
		{}, {Time: api.MaxTime}, {Left: sea}, {Right: sea}, {Beached: s.g.Land}, {Left: sea, Right: sea, Beached: s.g.Land[1:3], Off: true}, {Off: true},
	} {
		if e := drift.CheckPatch(s.g, p); e != api.OK {
			t.Errorf("%v: %v", p, e)
		}
	}
	for _, p := range wrongPatches() {
		if e := drift.CheckPatch(s.g, p); e != api.ErrArg {
			t.Errorf("%v: %v", p, e)
		}
	}
	for _, g := range wrongGrids {
		if e := drift.CheckPatch(g, api.Patch{}); e != api.ErrArg {
			t.Errorf("grid %v: %v", g, e)
		}
	}
}

// P4.1: what of the land is on a patch may be more than a region can have.
func TestCheckPatchOnLongLand(t *testing.T) {
	g := widest().g
	g.Land = comb(64, 2, 0)
	var wide []api.Run
	for y := range 64 {
		wide = append(wide, api.Run{Y: 2 * y, From: 0, To: api.MaxWide})
	}
	for _, p := range []api.Patch{{Left: wide}, {Right: wide}, {Beached: wide}, {Left: comb(64, 2, 0)}, {Beached: comb(64, 2, 1)}} {
		if e := drift.CheckPatch(g, p); e != api.ErrArg {
			t.Errorf("%v", e)
		}
	}
	if e := drift.CheckPatch(g, api.Patch{Left: comb(64, 2, 1), Right: comb(64, 2, 1), Beached: comb(64, 2, 0)}); e != api.OK {
		t.Errorf("%v", e)
	}
}

// P4.1: the chapter's examples.
func TestPushOfExamples(t *testing.T) {
	s := example()
	if p, e := drift.Push(s.g, s.w, s.d, api.Cell{X: 1, Y: 1}, api.ToLeft, 0, 1000); p != push(100, 50, 100, 100) || e != api.OK {
		t.Errorf("to the left: %v, %v", p, e)
	}
	if p, e := drift.Push(s.g, s.w, s.d, api.Cell{X: 1, Y: 1}, api.ToRight, 0, 1000); p != push(100, -100, 100, -50) || e != api.OK {
		t.Errorf("to the right: %v, %v", p, e)
	}
}

// P4.1
func TestPush(t *testing.T) {
	g := api.Grid{W: 5, H: 5, Size: 100}
	d := api.Drifter{DownLow: 10, DownHigh: 30, CrossLow: 5, CrossHigh: 20}
	for _, c := range []struct {
		what          string
		current, wind api.Flow
		d             api.Drifter
		side, seconds int
		want          api.Push
	}{
		{"nothing moves", flow(all(g), 0, 0, 0, 0), flow(all(g), 0, 0, 0, 0), d, api.ToLeft, 1000, push(0, 0, 0, 0)},
		{"a current alone", flow(all(g), -500, 100, 300, 200), flow(all(g), 9000, 0, 9000, 0), api.Drifter{}, api.ToRight, 1000, push(-500, 100, 300, 200)},
		{"rounded outwards", flow(all(g), -1, 1, 1, 1), flow(all(g), 0, 0, 0, 0), d, api.ToLeft, 1, push(-1, 0, 1, 1)},
		{"rounded to what is next", flow(all(g), -999, 1001, -999, 1001), flow(all(g), 0, 0, 0, 0), d, api.ToLeft, 1, push(-1, 1, 0, 2)},
		{"a wind to the north", flow(all(g), 0, 0, 0, 0), flow(all(g), 0, 10000, 0, 10000), d, api.ToLeft, 1000, push(-200, 100, -50, 300)},
		{"a wind to the north, to the right", flow(all(g), 0, 0, 0, 0), flow(all(g), 0, 10000, 0, 10000), d, api.ToRight, 1000, push(50, 100, 200, 300)},
		{"a wind to the south", flow(all(g), 0, 0, 0, 0), flow(all(g), 0, -10000, 0, -10000), d, api.ToLeft, 1000, push(50, -300, 200, -100)},
		{"a wind that turns", flow(all(g), 0, 0, 0, 0), flow(all(g), -10000, -20000, 10000, 5000), d, api.ToLeft, 1000, push(-400, -800, 700, 350)},
		{"the greatest", flow(all(g), -api.MaxRate, -api.MaxRate, api.MaxRate, api.MaxRate), flow(all(g), -api.MaxRate, -api.MaxRate, api.MaxRate, api.MaxRate), api.Drifter{DownHigh: api.MaxLeeway, CrossHigh: api.MaxLeeway}, api.ToRight, api.MaxStep, push(-12960000, -12960000, 12960000, 12960000)},
	} {
		w := api.Flows{Currents: []api.Flow{c.current}, Winds: []api.Flow{c.wind}}
		if p, e := drift.Push(g, w, c.d, api.Cell{X: 4, Y: 4}, c.side, 0, c.seconds); p != c.want || e != api.OK {
			t.Errorf("%s: %v, %v", c.what, p, e)
		}
	}
}

// P4.1: which flows a cell has at a time.
func TestPushOfFlows(t *testing.T) {
	g := api.Grid{W: 5, H: 1, Size: 100}
	calm := []api.Flow{flow(all(g), 0, 0, 0, 0)}
	some := []api.Flow{
		{From: 10, To: 20, Where: cell(1, 0), Low: api.Spot{X: 1000, Y: 2000}, High: api.Spot{X: 3000, Y: 4000}},
		{From: 15, To: 30, Where: []api.Run{{From: 1, To: 3}}, Low: api.Spot{X: 2000, Y: -7000}, High: api.Spot{X: 2500, Y: 5000}},
	}
	for _, c := range []struct {
		x, time int
		want    api.Push
		e       api.Errno
	}{
		{1, 9, api.Push{}, api.ErrNone}, {1, 10, push(1, 2, 3, 4), api.OK}, {1, 14, push(1, 2, 3, 4), api.OK}, {1, 15, push(1, -7, 3, 5), api.OK},
		{1, 19, push(1, -7, 3, 5), api.OK}, {1, 20, push(2, -7, 3, 5), api.OK}, {1, 29, push(2, -7, 3, 5), api.OK}, {1, 30, api.Push{}, api.ErrNone},
		{2, 14, api.Push{}, api.ErrNone}, {2, 15, push(2, -7, 3, 5), api.OK}, {3, 15, api.Push{}, api.ErrNone}, {0, 15, api.Push{}, api.ErrNone}, {1, api.MaxTime, api.Push{}, api.ErrNone},
	} {
		at := api.Cell{X: c.x}
		if p, e := drift.Push(g, api.Flows{Currents: some, Winds: calm}, api.Drifter{}, at, api.ToLeft, c.time, 1); p != c.want || e != c.e {
			t.Errorf("currents at %d of %d: %v, %v", c.time, c.x, p, e)
		}
		d := api.Drifter{DownLow: 1000, DownHigh: 1000}
		if p, e := drift.Push(g, api.Flows{Currents: calm, Winds: some}, d, at, api.ToRight, c.time, 1); p != c.want || e != c.e {
			t.Errorf("winds at %d of %d: %v, %v", c.time, c.x, p, e)
		}
	}
}

// P4.1
func TestPushByText(t *testing.T) {
	random := rand.New(rand.NewSource(1))
	for range 3000 {
		s := someSea(random)
		c, side, time := cellsOf(s.g)[random.Intn(s.g.W*s.g.H)], random.Intn(2), random.Intn(20)
		want, known := s.pushAt(c, side, time)
		p, e := drift.Push(s.g, s.w, s.d, c, side, time, s.seconds)
		if p != want || (e == api.OK) != known || !known && e != api.ErrNone {
			t.Fatalf("%+v, %v, %d, %d: %v, %v, and not %v", s, c, side, time, p, e, want)
		}
	}
}

// P4.1
func TestWrongPush(t *testing.T) {
	s := example()
	get := func(g api.Grid, w api.Flows, d api.Drifter, c api.Cell, side, time, seconds int) {
		t.Helper()
		if p, e := drift.Push(g, w, d, c, side, time, seconds); p != (api.Push{}) || e != api.ErrArg {
			t.Errorf("%v, %v", p, e)
		}
	}
	at := api.Cell{X: 1, Y: 1}
	for _, c := range []api.Cell{{X: -1}, {Y: -1}, {X: 5}, {Y: 5}, {X: most, Y: most}, {X: least, Y: least}} {
		get(s.g, s.w, s.d, c, api.ToLeft, 0, 1)
		get(s.g, api.Flows{}, s.d, c, api.ToLeft, 0, 1)
	}
	for _, n := range []int{-1, 2, most, least} {
		get(s.g, s.w, s.d, at, n, 0, 1)
	}
	for _, n := range []int{-1, api.MaxTime + 1, most, least} {
		get(s.g, s.w, s.d, at, api.ToLeft, n, 1)
	}
	for _, n := range []int{0, -1, api.MaxStep + 1, most, least} {
		get(s.g, s.w, s.d, at, api.ToLeft, 0, n)
	}
	for _, g := range wrongGrids {
		get(g, s.w, s.d, at, api.ToLeft, 0, 1)
	}
	for _, d := range wrongDrifters {
		get(s.g, s.w, d, at, api.ToLeft, 0, 1)
	}
	for _, f := range wrongFlows() {
		get(s.g, api.Flows{Currents: []api.Flow{f}}, s.d, at, api.ToLeft, 0, 1)
	}
	if p, e := drift.Push(s.g, api.Flows{Currents: s.w.Currents}, s.d, at, api.ToLeft, 0, 1); p != (api.Push{}) || e != api.ErrNone {
		t.Errorf("no wind: %v, %v", p, e)
	}
	if p, e := drift.Push(s.g, api.Flows{Winds: s.w.Winds}, s.d, at, api.ToLeft, 0, 1); p != (api.Push{}) || e != api.ErrNone {
		t.Errorf("no current: %v, %v", p, e)
	}
}
