package drift_test

import (
	"math/big"
	"math/rand"
	"slices"
	"testing"

	"cresset/api"
	"cresset/drift"
	"cresset/grid"
)

const (
	big62 = 1 << 62
	least = -1 << 63
	most  = 1<<63 - 1
)

// sea is what a step depends on beside its patch.
type sea struct {
	g       api.Grid
	w       api.Flows
	d       api.Drifter
	seconds int
}

// push returns the push from one move to another one.
func push(x, y, toX, toY int) api.Push {
	return api.Push{Low: api.Spot{X: x, Y: y}, High: api.Spot{X: toX, Y: toY}}
}

// cell returns the region of a cell.
func cell(x, y int) []api.Run {
	return []api.Run{{Y: y, From: x, To: x + 1}}
}

// all returns all cells of a grid.
func all(g api.Grid) []api.Run {
	r, _ := grid.All(g)
	return r
}

// flow returns a flow of all times.
func flow(where []api.Run, x, y, toX, toY int) api.Flow {
	return api.Flow{To: api.MaxTime, Where: where, Low: api.Spot{X: x, Y: y}, High: api.Spot{X: toX, Y: toY}}
}

// example returns what the chapter's examples have.
func example() sea {
	g := api.Grid{W: 5, H: 5, Size: 100}
	for y := range 5 {
		g.Land = append(g.Land, api.Run{Y: y, From: 4, To: 5})
	}
	w := api.Flows{Currents: []api.Flow{flow(all(g), 0, 0, 0, 0)}, Winds: []api.Flow{flow(all(g), 5000, 0, 5000, 0)}}
	return sea{g: g, w: w, d: api.Drifter{DownLow: 20, DownHigh: 20, CrossLow: 10, CrossHigh: 20}, seconds: 1000}
}

// comb returns every second cell of every step-th row: with 64 rows that is the longest region.
func comb(rows, step, first int) []api.Run {
	var l []api.Run
	for y := range rows {
		for x := first; x < api.MaxWide; x += 2 {
			l = append(l, api.Run{Y: y * step, From: x, To: x + 1})
		}
	}
	return l
}

// widest returns a sea of the greatest grid, without land, in which nothing moves.
func widest() sea {
	g := api.Grid{W: api.MaxWide, H: api.MaxWide, Size: 100}
	calm := []api.Flow{flow(all(g), 0, 0, 0, 0)}
	return sea{g: g, w: api.Flows{Currents: calm, Winds: calm}, seconds: 1000}
}

// set is the cells of a region, each on its own.
type set map[api.Cell]bool

func setOf(r []api.Run) set {
	s := set{}
	for _, run := range r {
		for x := run.From; x < run.To; x++ {
			s[api.Cell{X: x, Y: run.Y}] = true
		}
	}
	return s
}

// runs returns the one region that has just these cells of a grid.
func (s set) runs(g api.Grid) []api.Run {
	var l []api.Run
	for y := range g.H {
		for x := range g.W {
			switch {
			case !s[api.Cell{X: x, Y: y}]:
			case s[api.Cell{X: x - 1, Y: y}]:
				l[len(l)-1].To++
			default:
				l = append(l, api.Run{Y: y, From: x, To: x + 1})
			}
		}
	}
	return l
}

// add adds the cells of other sets.
func (s set) add(others ...set) {
	for _, o := range others {
		for c := range o {
			s[c] = true
		}
	}
}

// both returns the cells of two sets.
func (s set) both(other set) set {
	out := set{}
	for c := range s {
		if other[c] {
			out[c] = true
		}
	}
	return out
}

// without returns the cells that another set has not.
func (s set) without(other set) set {
	out := set{}
	for c := range s {
		if !other[c] {
			out[c] = true
		}
	}
	return out
}

// hasAll reports whether a region has all cells of another one.
func hasAll(r, other []api.Run) bool {
	return len(setOf(other).without(setOf(r))) == 0
}

// covers reports whether a patch has all that another one has.
func covers(p, other api.Patch) bool {
	return p.Time == other.Time && hasAll(p.Left, other.Left) && hasAll(p.Right, other.Right) && hasAll(p.Beached, other.Beached) && (p.Off || !other.Off)
}

// equal reports whether two patches are equal.
func equal(a, b api.Patch) bool {
	return a.Time == b.Time && a.Off == b.Off && slices.Equal(a.Left, b.Left) && slices.Equal(a.Right, b.Right) && slices.Equal(a.Beached, b.Beached)
}

// isNothing reports whether a patch is the zero one.
func isNothing(p api.Patch) bool {
	return p.Time == 0 && p.Left == nil && p.Right == nil && p.Beached == nil && !p.Off
}

// cellsOf returns all cells of a grid.
func cellsOf(g api.Grid) []api.Cell {
	var l []api.Cell
	for y := range g.H {
		for x := range g.W {
			l = append(l, api.Cell{X: x, Y: y})
		}
	}
	return l
}

// speedsAt returns the bounds of the speeds of a cell, by the text of the chapter.
func speedsAt(l []api.Flow, c api.Cell, time int) (low, high api.Spot, known bool) {
	var xs, ys []int
	for _, f := range l {
		if f.From <= time && f.To > time && setOf(f.Where)[c] {
			xs, ys = append(xs, f.Low.X, f.High.X), append(ys, f.Low.Y, f.High.Y)
		}
	}
	if xs == nil {
		return low, high, false
	}
	return api.Spot{X: slices.Min(xs), Y: slices.Min(ys)}, api.Spot{X: slices.Max(xs), Y: slices.Max(ys)}, true
}

// pushAt returns the push of a cell, by the text of the chapter, and whether it is known.
func (s sea) pushAt(c api.Cell, side, time int) (api.Push, bool) {
	uv, toUV, known := speedsAt(s.w.Currents, c, time)
	ab, toAB, knows := speedsAt(s.w.Winds, c, time)
	if !known || !knows {
		return api.Push{}, false
	}
	sign := []int{1, -1}[side]
	terms := func(uv, toUV int, ab, toAB int, ba, toBA int, cross int) (low, high int) {
		var down, across []int
		for _, d := range []int{s.d.DownLow, s.d.DownHigh} {
			down = append(down, d*ab, d*toAB)
		}
		for _, c := range []int{s.d.CrossLow, s.d.CrossHigh} {
			across = append(across, cross*c*ba, cross*c*toBA)
		}
		return 1000*uv + slices.Min(down) + slices.Min(across), 1000*toUV + slices.Max(down) + slices.Max(across)
	}
	x, toX := terms(uv.X, toUV.X, ab.X, toAB.X, ab.Y, toAB.Y, -sign)
	y, toY := terms(uv.Y, toUV.Y, ab.Y, toAB.Y, ab.X, toAB.X, sign)
	return push(down(x, s.seconds), down(y, s.seconds), -down(-toX, s.seconds), -down(-toY, s.seconds)), true
}

// down returns n * seconds / 1000000, rounded down.
func down(n, seconds int) int {
	product := new(big.Int).Mul(big.NewInt(int64(n)), big.NewInt(int64(seconds)))
	return int(new(big.Int).Div(product, big.NewInt(1000000)).Int64())
}

// greater returns a push with the move (0, 0).
func greater(p api.Push) api.Push {
	return push(min(0, p.Low.X), min(0, p.Low.Y), max(0, p.High.X), max(0, p.High.Y))
}

// grown returns what a cell grows to.
func (s sea) grown(c api.Cell, p api.Push) (set, bool) {
	r, off, e := grid.Grow(s.g, cell(c.X, c.Y), p)
	if e != api.OK {
		panic(e)
	}
	return setOf(r), off
}

// step is Step by the text of the chapter, cell by cell.
func (s sea) step(p api.Patch) (api.Patch, api.Errno) {
	if p.Time+s.seconds > api.MaxTime {
		return api.Patch{}, api.ErrRange
	}
	land := setOf(s.g.Land)
	to := []set{{}, {}}
	beached := setOf(p.Beached)
	off := p.Off
	for side, r := range [][]api.Run{p.Left, p.Right} {
		for c := range setOf(r) {
			push, known := s.pushAt(c, side, p.Time)
			if !known {
				return api.Patch{}, api.ErrNone
			}
			there, isOff := s.grown(c, push)
			passed, isPassing := s.grown(c, greater(push))
			to[side].add(there.without(land))
			beached.add(passed.both(land))
			off = off || isOff || isPassing
		}
	}
	if s.d.Jibes {
		to[0].add(to[1])
		to[1].add(to[0])
	}
	return api.Patch{Time: p.Time + s.seconds, Left: to[0].runs(s.g), Right: to[1].runs(s.g), Beached: beached.runs(s.g), Off: off}, api.OK
}

// before is Before by the text of the chapter, cell by cell.
func (s sea) before(p api.Patch) (api.Patch, api.Errno) {
	if p.Time < s.seconds {
		return api.Patch{}, api.ErrRange
	}
	targets := []set{setOf(p.Left), setOf(p.Right)}
	if s.d.Jibes {
		targets[0].add(targets[1])
		targets[1] = targets[0]
	}
	from := []set{{}, {}}
	for c := range setOf(all(s.g)).without(setOf(s.g.Land)) {
		for side := range from {
			push, known := s.pushAt(c, side, p.Time-s.seconds)
			if !known {
				return api.Patch{}, api.ErrNone
			}
			there, _ := s.grown(c, push)
			passed, _ := s.grown(c, greater(push))
			if len(there.both(targets[side])) > 0 || len(passed.both(setOf(p.Beached))) > 0 {
				from[side][c] = true
			}
		}
	}
	return api.Patch{Time: p.Time - s.seconds, Left: from[0].runs(s.g), Right: from[1].runs(s.g), Beached: p.Beached}, api.OK
}

// someRegion returns a region of a grid, which may be empty, or all of it.
func someRegion(random *rand.Rand, g api.Grid) []api.Run {
	part := random.Intn(5)
	s := set{}
	for _, c := range cellsOf(g) {
		if random.Intn(4) < part {
			s[c] = true
		}
	}
	return s.runs(g)
}

// someFlows returns some flows, of which the first one is everywhere and at all times, unless there are gaps.
func someFlows(random *rand.Rand, g api.Grid, gaps bool, size int) []api.Flow {
	var l []api.Flow
	for i := range 1 + random.Intn(4) {
		x, y := random.Intn(2*size+1)-size, random.Intn(2*size+1)-size
		f := flow(someRegion(random, g), x, y, x+random.Intn(size+1), y+random.Intn(size+1))
		f.From = random.Intn(10)
		f.To = f.From + 1 + random.Intn(10)
		if i == 0 {
			f.From, f.To = 0, api.MaxTime
		}
		if i == 0 && !gaps {
			f.Where = all(g)
		}
		l = append(l, f)
	}
	return l
}

// someSea returns a small sea.
func someSea(random *rand.Rand) sea {
	g := api.Grid{W: 1 + random.Intn(7), H: 1 + random.Intn(7), Size: 1 + random.Intn(300)}
	if random.Intn(5) == 0 {
		g.Size = 1
	}
	if random.Intn(4) > 0 {
		g.Land = someRegion(random, g)
	}
	s := sea{g: g, seconds: 1 + random.Intn(5)}
	// What the fastest drifter can reach is some cells.
	size := 1 + random.Intn(1+g.Size*2000/s.seconds)
	gaps := random.Intn(8) == 0
	s.w = api.Flows{Currents: someFlows(random, g, gaps, min(size/2, 40000)), Winds: someFlows(random, g, gaps, min(size, 50000))}
	s.d = api.Drifter{DownLow: random.Intn(500), CrossLow: random.Intn(300), Jibes: random.Intn(2) == 0}
	s.d.DownHigh, s.d.CrossHigh = s.d.DownLow+random.Intn(500), s.d.CrossLow+random.Intn(300)
	return s
}

// somePatch returns a patch.
func (s sea) somePatch(random *rand.Rand) api.Patch {
	land := setOf(s.g.Land)
	return api.Patch{
		Time:    random.Intn(20),
		Left:    setOf(someRegion(random, s.g)).without(land).runs(s.g),
		Right:   setOf(someRegion(random, s.g)).without(land).runs(s.g),
		Beached: setOf(someRegion(random, s.g)).both(land).runs(s.g),
		Off:     random.Intn(4) == 0,
	}
}

// must returns a patch that comes without an error.
func must(t *testing.T) func(p api.Patch, e api.Errno) api.Patch {
	return func(p api.Patch, e api.Errno) api.Patch {
		t.Helper()
		if e != api.OK {
			t.Fatalf("error %v", e)
		}
		return p
	}
}

// do calls Step and Before of a sea.
func (s sea) doStep(p api.Patch) (api.Patch, api.Errno) {
	return drift.Step(s.g, s.w, s.d, p, s.seconds)
}

func (s sea) doBefore(p api.Patch) (api.Patch, api.Errno) {
	return drift.Before(s.g, s.w, s.d, p, s.seconds)
}
