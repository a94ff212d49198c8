package grid_test

import (
	"math/rand"
	"slices"
	"testing"

	"cresset/api"
	"cresset/grid"
)

const (
	place = api.MaxPlace
	big   = 1 << 62
	small = -1 << 63
)

// set is the cells of a region, each on its own.
type set map[api.Cell]bool

// setOf returns the cells of runs.
func setOf(r []api.Run) set {
	s := set{}
	for _, run := range r {
		for x := run.From; x < run.To; x++ {
			s[api.Cell{X: x, Y: run.Y}] = true
		}
	}
	return s
}

// runs returns the one region that has just these cells of a grid.
func (s set) runs(g api.Grid) []api.Run {
	var l []api.Run
	for y := range g.H {
		for x := range g.W {
			switch {
			case !s[api.Cell{X: x, Y: y}]:
			case s[api.Cell{X: x - 1, Y: y}]:
				l[len(l)-1].To++
			default:
				l = append(l, api.Run{Y: y, From: x, To: x + 1})
			}
		}
	}
	return l
}

// cellsOf returns all cells of a grid.
func cellsOf(g api.Grid) []api.Cell {
	var l []api.Cell
	for y := range g.H {
		for x := range g.W {
			l = append(l, api.Cell{X: x, Y: y})
		}
	}
	return l
}

// chosen returns the region of the cells for which a condition holds.
func chosen(g api.Grid, holds func(c api.Cell) bool) []api.Run {
	s := set{}
	for _, c := range cellsOf(g) {
		if holds(c) {
			s[c] = true
		}
	}
	return s.runs(g)
}

// places returns all places of a cell.
func places(g api.Grid, c api.Cell) []api.Spot {
	var l []api.Spot
	for y := range g.Size {
		for x := range g.Size {
			l = append(l, api.Spot{X: c.X*g.Size + x, Y: c.Y*g.Size + y})
		}
	}
	return l
}

// cellOf returns the cell of a place.
func cellOf(g api.Grid, s api.Spot) (api.Cell, bool) {
	if s.X < 0 || s.Y < 0 || s.X >= g.W*g.Size || s.Y >= g.H*g.Size {
		return api.Cell{}, false
	}
	return api.Cell{X: s.X / g.Size, Y: s.Y / g.Size}, true
}

// moves returns all moves of a push.
func moves(p api.Push) []api.Spot {
	var l []api.Spot
	for y := p.Low.Y; y <= p.High.Y; y++ {
		for x := p.Low.X; x <= p.High.X; x++ {
			l = append(l, api.Spot{X: x, Y: y})
		}
	}
	return l
}

// push returns the push from one move to another one.
func push(x, y, toX, toY int) api.Push {
	return api.Push{Low: api.Spot{X: x, Y: y}, High: api.Spot{X: toX, Y: toY}}
}

// cell returns the region of a cell.
func cell(x, y int) []api.Run {
	return []api.Run{{Y: y, From: x, To: x + 1}}
}

// example returns the grid of the chapter's examples.
func example() api.Grid {
	return api.Grid{W: 4, H: 3, Size: 10, Land: []api.Run{{From: 0, To: 2}}}
}

// widest returns the greatest grid, without land.
func widest() api.Grid {
	return api.Grid{W: api.MaxWide, H: api.MaxWide, Size: api.MaxCell}
}

// comb returns every second cell of every step-th row: with 64 rows that is the longest region.
func comb(rows, step, first int) []api.Run {
	var l []api.Run
	for y := range rows {
		for x := first; x < api.MaxWide; x += 2 {
			l = append(l, api.Run{Y: y * step, From: x, To: x + 1})
		}
	}
	return l
}

// someGrid returns a small grid with some land.
func someGrid(random *rand.Rand) api.Grid {
	g := api.Grid{W: 1 + random.Intn(7), H: 1 + random.Intn(7), Size: 1 + random.Intn(4)}
	g.Land = someRegion(random, g)
	return g
}

// someRegion returns a region of a grid, which may be empty, or all of it.
func someRegion(random *rand.Rand, g api.Grid) []api.Run {
	part := random.Intn(5)
	return chosen(g, func(api.Cell) bool { return random.Intn(4) < part })
}

// somePush returns a push of a few cells.
func somePush(random *rand.Rand, g api.Grid) api.Push {
	size := 1 + random.Intn(3*g.Size)
	x, y := random.Intn(2*size+1)-size, random.Intn(2*size+1)-size
	return push(x, y, x+random.Intn(2*g.Size), y+random.Intn(2*g.Size))
}

// someSpot returns a place in the grid or around it.
func someSpot(random *rand.Rand, g api.Grid) api.Spot {
	return api.Spot{X: random.Intn((g.W+4)*g.Size) - 2*g.Size, Y: random.Intn((g.H+4)*g.Size) - 2*g.Size}
}

// must returns a region that comes without an error.
func must(t *testing.T) func(r []api.Run, e api.Errno) []api.Run {
	return func(r []api.Run, e api.Errno) []api.Run {
		t.Helper()
		if e != api.OK {
			t.Fatalf("error %v", e)
		}
		return r
	}
}

// grown returns what a region grows to.
func grown(t *testing.T, g api.Grid, r []api.Run, p api.Push) []api.Run {
	t.Helper()
	out, _, e := grid.Grow(g, r, p)
	return must(t)(out, e)
}

// wide returns a grid of the greatest sides that has some land, and a region of it.
func wide(random *rand.Rand) (api.Grid, []api.Run) {
	g := widest()
	g.Size = []int{1, 64, api.MaxCell}[random.Intn(3)]
	if random.Intn(2) == 0 {
		g.W, g.H = 60+random.Intn(10), 190+random.Intn(10)
	}
	long := func() []api.Run {
		var l []api.Run
		for y := range g.H {
			for x := random.Intn(60); x < g.W; x += 20 + random.Intn(70) {
				to := min(x+1+random.Intn(70), g.W)
				l = append(l, api.Run{Y: y, From: x, To: to})
				x = to
			}
		}
		return l
	}
	g.Land = long()
	return g, long()
}

// isNothing reports whether a call was refused, and gave nothing beside its error.
func isNothing(r []api.Run, e, want api.Errno) bool {
	return len(r) == 0 && e == want
}

// equal reports whether two regions are equal.
func equal(a, b []api.Run) bool {
	return slices.Equal(a, b)
}
