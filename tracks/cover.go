package tracks

import (
	"sort"

	"cresset/api"
	"cresset/grid"
)

// marks tells of each cell of the greatest grid, by y, then by x, whether it is covered.
type marks [api.MaxWide][api.MaxWide]bool

// Covers returns the cells that a track covers.
func Covers(g api.Grid, l []api.Spot, width int) ([]api.Run, api.Errno) {
	if grid.CheckGrid(g) != api.OK || !isTrack(l) || !isWidth(width) {
		return nil, api.ErrArg
	}
	var covered marks
	for from, to := range legs(l) {
		covered.add(g, legOf(from, to), width)
	}
	return grid.Region(g, covered.cells(g))
}

// add marks the cells that a leg covers. What is within the width of a leg is convex, so that a cell is covered as soon as its lowest and its highest line are.
func (m *marks) add(g api.Grid, k leg, width int) {
	for y := range g.H {
		low := y * g.Size
		from, to := k.covers(g, low, width)
		highFrom, highTo := k.covers(g, low+g.Size-1, width)
		for x := max(from, highFrom); x < min(to, highTo); x++ {
			m[y][x] = true
		}
	}
}

// cells returns the cells of a grid that are marked.
func (m *marks) cells(g api.Grid) []api.Cell {
	var l []api.Cell
	for y := range g.H {
		for x := range g.W {
			if m[y][x] {
				l = append(l, api.Cell{X: x, Y: y})
			}
		}
	}
	return l
}

// covers returns from which x to below which one the cells have all their places of the height y within the width of the leg.
func (k leg) covers(g api.Grid, y, width int) (from, to int) {
	nearest := k.nearest(y)
	if !k.isNear(nearest, width) {
		return 0, 0
	}
	from = sort.Search(g.W, func(x int) bool {
		first := api.Spot{X: x * g.Size, Y: y}
		return first.X >= nearest.X || k.isNear(first, width)
	})
	to = sort.Search(g.W, func(x int) bool {
		last := api.Spot{X: x*g.Size + g.Size - 1, Y: y}
		return last.X > nearest.X && !k.isNear(last, width)
	})
	return from, to
}
