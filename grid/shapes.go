package grid

import "cresset/api"

// Box returns the cells that have a place of a box.
func Box(g api.Grid, low, high api.Spot) ([]api.Run, api.Errno) {
	if CheckGrid(g) != api.OK || !isSpot(low) || !isSpot(high) || low.X > high.X || low.Y > high.Y {
		return nil, api.ErrArg
	}
	return choose(g, func(c api.Cell) bool {
		first, last := corners(g, c)
		return first.X <= high.X && last.X >= low.X && first.Y <= high.Y && last.Y >= low.Y
	}).runs()
}

// Disc returns the cells that have a place not farther from a spot than a radius.
func Disc(g api.Grid, s api.Spot, radius int) ([]api.Run, api.Errno) {
	if CheckGrid(g) != api.OK || !isSpot(s) || !isFrom(radius, 0, api.MaxPlace) {
		return nil, api.ErrArg
	}
	return choose(g, func(c api.Cell) bool {
		first, last := corners(g, c)
		x := s.X - min(max(s.X, first.X), last.X)
		y := s.Y - min(max(s.Y, first.Y), last.Y)
		return x*x+y*y <= radius*radius
	}).runs()
}

// Half returns the cells that have a place to the left of a line, or on it.
func Half(g api.Grid, a, b api.Spot) ([]api.Run, api.Errno) {
	if CheckGrid(g) != api.OK || !isSpot(a) || !isSpot(b) || a == b {
		return nil, api.ErrArg
	}
	x, y := b.X-a.X, b.Y-a.Y
	return choose(g, func(c api.Cell) bool {
		first, last := corners(g, c)
		// The corner that is farthest to the left decides: each coordinate adds its own part.
		return max(x*(first.Y-a.Y), x*(last.Y-a.Y))+max(-y*(first.X-a.X), -y*(last.X-a.X)) >= 0
	}).runs()
}

// Hull returns the least and the greatest numbers of a region's places.
func Hull(g api.Grid, r []api.Run) (low, high api.Spot, e api.Errno) {
	if e := CheckRegion(g, r); e != api.OK {
		return api.Spot{}, api.Spot{}, e
	}
	if len(r) == 0 {
		return api.Spot{}, api.Spot{}, api.ErrNone
	}
	from, to := r[0].From, r[0].To
	for _, run := range r {
		from, to = min(from, run.From), max(to, run.To)
	}
	low, _ = corners(g, api.Cell{X: from, Y: r[0].Y})
	_, high = corners(g, api.Cell{X: to - 1, Y: r[len(r)-1].Y})
	return low, high, api.OK
}

// corners returns the lowest and the highest place of a cell.
func corners(g api.Grid, c api.Cell) (low, high api.Spot) {
	low = api.Spot{X: c.X * g.Size, Y: c.Y * g.Size}
	return low, api.Spot{X: low.X + g.Size - 1, Y: low.Y + g.Size - 1}
}
