package grid

import "cresset/api"

// Grow returns the cells that moves lead to.
func Grow(g api.Grid, r []api.Run, p api.Push) (out []api.Run, off bool, e api.Errno) {
	if CheckRegion(g, r) != api.OK || !isPush(p) {
		return nil, false, api.ErrArg
	}
	s, off := grown(g, r, stretchBy(g, p))
	if out, e = s.runs(); e != api.OK {
		return nil, false, e
	}
	return out, off, api.OK
}

// Back returns the cells from which moves lead to a region.
func Back(g api.Grid, r []api.Run, p api.Push) ([]api.Run, api.Errno) {
	out, _, e := Grow(g, r, api.Push{Low: reversed(p.High), High: reversed(p.Low)})
	return out, e
}

// Shore returns the cells that are not land, and share a side with land.
func Shore(g api.Grid) ([]api.Run, api.Errno) {
	if e := CheckGrid(g); e != api.OK {
		return nil, e
	}
	beside, _ := grown(g, g.Land, stretch{low: api.Cell{X: -1}, high: api.Cell{X: 1}})
	above, _ := grown(g, g.Land, stretch{low: api.Cell{Y: -1}, high: api.Cell{Y: 1}})
	beside.merge(above, either)
	beside.merge(rowsOf(g.Land), without)
	return beside.runs()
}

// isPush reports whether a push is valid.
func isPush(p api.Push) bool {
	for _, n := range [...]int{p.Low.X, p.Low.Y, p.High.X, p.High.Y} {
		if !isFrom(n, -api.MaxPush, api.MaxPush) {
			return false
		}
	}
	return p.Low.X <= p.High.X && p.Low.Y <= p.High.Y
}

// reversed returns the way back.
func reversed(move api.Spot) api.Spot {
	return api.Spot{X: -move.X, Y: -move.Y}
}

// stretch is all moves by whole cells, from low to high.
type stretch struct {
	low, high api.Cell
}

// stretchBy returns by how many cells the places of a cell are led by a push: from those of its lowest place to those of its highest one.
func stretchBy(g api.Grid, p api.Push) stretch {
	return stretch{
		low:  api.Cell{X: floor(p.Low.X, g.Size), Y: floor(p.Low.Y, g.Size)},
		high: api.Cell{X: floor(p.High.X+g.Size-1, g.Size), Y: floor(p.High.Y+g.Size-1, g.Size)},
	}
}

// grown returns the cells that a stretch leads to from a region, and whether it leads to what is no cell, too.
func grown(g api.Grid, r []api.Run, by stretch) (s *rows, off bool) {
	var wide rows
	for _, run := range r {
		from, to := run.From+by.low.X, run.To+by.high.X
		wide[run.Y].fill(max(from, 0), min(to, g.W))
		off = off || from < 0 || to > g.W || run.Y+by.low.Y < 0 || run.Y+by.high.Y >= g.H
	}
	s = &rows{}
	for y, cells := range wide {
		if cells == (row{}) {
			continue
		}
		low, high := max(y+by.low.Y, 0), min(y+by.high.Y, g.H-1)
		for to := low; to <= high; to++ {
			merge(s[to][:], cells[:], either)
		}
	}
	return s, off
}
